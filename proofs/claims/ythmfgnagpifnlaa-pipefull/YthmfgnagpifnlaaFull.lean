/- Just so many connections may come. -/
import Derived.Test.YthmfgnagpifnlaaSure
namespace Go.Proofs.Ythmfgnagpifnlaa.Full
open Go.RowKit
open Go.Proofs.Ythmfgnagpifnlaa.PipeMath
open Go.Proofs.Ythmfgnagpifnlaa.Base
open Go.Proofs.Ythmfgnagpifnlaa.Net
open Go.Proofs.Ythmfgnagpifnlaa.Sure
set_option linter.unusedVariables false

def full (k : Nat) : Nt := ⟨1, List.replicate k cn0, 0⟩
theorem full_more (k : Nat) (h : k < 1024) : (full k).connect = (full (k + 1), (k : Int), 0) := by
  unfold Nt.connect full
  rw [if_neg (by simp; omega)]
  simp [List.replicate_succ']
theorem full_end : (full 1024).connect = (full 1024, 0, 60) := by
  unfold Nt.connect full
  rw [if_pos (by rw [List.length_replicate]; exact Nat.le_refl _)]
structure Al (base : Nat) (k : Nat) (w wr : World) : Prop where
  hu : HU base base (full k) wr
  bl : Below base w wr
theorem Al.on {base k j : Nat} {w a b : World} (h : Al base k w a) (u : HU base base (full j) b) (f : Fr (Up base) a b) : Al base j w b := ⟨u, h.bl.trans (f.below h.hu.low fun k e => e)⟩
set_option maxHeartbeats 2000000 in
set_option maxRecDepth 100000 in
theorem law_call (more : Int) (w : World) : Calls Try.prog 4 #[.int .i64 more] w fun e w' => e = .returned (.bool true) ∧ Below w.heap.size w w' := by
  have A1 := hid_of (u_new 1 (by decide) (by decide) w)
  obtain ⟨B, hB⟩ : ∃ B, B = w.heap.size := ⟨_, rfl⟩
  rw [← hB] at A1 ⊢
  have HB := hid_of hB
  clear hB
  have S := hid_of sure_call
  go_enter Try.func4, Try.ntmps4
  go_wp2_with fail
  refine A1.out.mono ?_
  rintro e w1 ⟨rfl, h1, b1⟩
  have X1 : Hid (Al B 0 w w1) := ⟨h1, b1⟩
  clear h1 b1
  go_wp2_with fail
  go_loopg [5] 1024 (fun g s5 wx => ∃ k : Nat, k ≤ 1024 ∧ 1024 ≤ k + g ∧ s5 = .int .i64 k ∧ Hid (Al B k w wx))
  case atStart => exact ⟨0, by omega, by omega, rfl, X1⟩
  case round =>
    obtain ⟨k, hk, hg, rfl, R⟩ := hrel
    by_cases hlt : k < 1024
    · obtain ⟨g', rfl⟩ : ∃ g', gk = g' + 1 := ⟨gk - 1, by omega⟩
      have gi : ((k : Int)) < 1024 := by omega
      have C := hid_of (u_connect (full_more k hlt) R.out.hu)
      have g1 : ((k : Int) == (k : Int)) = true := by simp
      go_wp2_with fail
      refine C.out.mono ?_
      rintro e w2 ⟨rfl, h2, f2⟩
      have X2 : Hid (Al B (k + 1) w w2) := R.out.on h2 f2
      clear h2 f2
      go_wp2_with fail
      go_roundg g'
      case measure => omega
      case rel => exact ⟨k + 1, by omega, by omega, by simp, X2⟩
    · obtain rfl : k = 1024 := by omega
      have gi : ¬ ((1024 : Int)) < 1024 := by omega
      go_wp2_with fail
      go_loopg [8] 5 (fun g s8 wx => ∃ j : Nat, j ≤ 5 ∧ 5 ≤ j + g ∧ s8 = .int .i64 j ∧ Hid (Al B 1024 w wx))
      case atStart => exact ⟨0, by omega, by omega, rfl, R⟩
      case round =>
        obtain ⟨j, hj, hg2, rfl, R2⟩ := hrel
        by_cases hlt2 : (j : Int) < more ∧ j < 5
        · obtain ⟨ha, hb⟩ := hlt2
          obtain ⟨g', rfl⟩ : ∃ g', gk = g' + 1 := ⟨gk - 1, by omega⟩
          have gj : ((j : Int)) < 5 := by omega
          have C := hid_of (u_connect full_end R2.out.hu)
          go_wp2_with fail
          refine C.out.mono ?_
          rintro e w2 ⟨rfl, h2, f2⟩
          have X2 : Hid (Al B 1024 w w2) := R2.out.on h2 f2
          clear h2 f2
          go_wp2_with fail
          go_roundg g'
          case measure => omega
          case rel => exact ⟨j + 1, by omega, by omega, by simp, X2⟩
        · have C := hid_of (u_conns (x := 1024) (by unfold full; rw [List.length_replicate]; rfl) R2.out.hu)
          have S2 := hid_of (S.out wr)
          have hor : ¬ (j : Int) < more ∨ ((j : Int) < more ∧ ¬ (j : Int) < 5) := by omega
          clear hlt2
          rcases hor with ha | ⟨ha, hb⟩
          all_goals
            go_wp2_with fail
            refine C.out.mono ?_
            rintro e w2 ⟨rfl, rfl⟩
            go_wp2_with fail
            refine (S.out _).mono ?_
            rintro e w3 ⟨rfl, b3⟩
            have B3 := hid_of b3
            clear b3
            go_wp2_with fail
            go_ret
            exact ⟨rfl, R2.out.bl.trans (B3.out.mono R2.out.hu.low)⟩
end Go.Proofs.Ythmfgnagpifnlaa.Full
