/- The contract of glob's Match: what the pattern means. -/
import Derived.Test.YtaglcpjjekaohaaPiece
namespace Go.Proofs.Ytaglcpjjekaohaa.Match
open Go.RowKit
open Go.Proofs.Ytaglcpjjekaohaa.Math
open Go.Proofs.Ytaglcpjjekaohaa.Class
open Go.Proofs.Ytaglcpjjekaohaa.Piece
set_option linter.unusedVariables false

theorem ret_b {a b : Bool} (h : a = b) : Ending.returned (.bool a) = .returned (.bool b) := by rw [h]

/-- What holds at the head of the walk over a pattern: it is told, or the walk is at (i, k), and at most g turns are to come. -/
def Head (p s : ByteArray) (g : Nat) (b r q k : Value) : Prop :=
  (q = .int .i64 (-1) ∧ MM p s 0 0 = false) ∨
  ∃ (b' : Int) (r' i' k' : Nat), b = .int .i64 b' ∧ r = .int .i64 r' ∧ q = .int .i64 i' ∧ k = .int .i64 k' ∧ Inv p s (MM p s 0 0) i' k' b' r' ∧ -1 ≤ b' ∧ b' ≤ p.size ∧ 1 ≤ g ∧ s.size + 2 ≤ g + r'

theorem head_next {p s : ByteArray} {g r1 r : Nat} {b : Int} (B : Bad p s (MM p s 0 0) b r1) (h1 : -1 ≤ b) (h2 : b ≤ p.size) (hr : r ≤ r1) (hg : s.size + 2 ≤ g + r) :
    Head p s (g - 1) (.int .i64 b) (.int .i64 ((r1 : Int) + 1)) (.int .i64 b) (.int .i64 r1) := by
  have hB := B.1
  rcases bad_next B with ⟨x, y⟩ | ⟨b', x, I⟩
  · exact Or.inl ⟨by rw [x], y⟩
  · exact Or.inr ⟨b, r1 + 1, b', r1, rfl, rfl, by rw [x], rfl, I, h1, h2, by omega, by omega⟩

set_option maxRecDepth 100000 in
set_option maxHeartbeats 2000000 in
theorem match_any (p s : ByteArray) (w : World) (hp : p.size ≤ 1000000000) (hs : s.size ≤ 1000000000) :
    Calls Try.prog 10 #[.string p, .string s] w fun e w' => e = .returned (.bool (MM p s 0 0)) ∧ ∃ m, w' = w.drewN m := by
  go_enter Try.func10, Try.ntmps10
  go_wp2
  go_step3
  go_wp2
  go_step3
  go_wp2
  go_loopg [5, 6, 7, 8] (s.size + 2) (fun g s5 s6 s7 s8 wx => Head p s g s5 s6 s7 s8 ∧ ∃ m, wx = w.drewN m)
  case atStart => exact ⟨Or.inr ⟨-1, 0, 0, 0, rfl, rfl, rfl, rfl, inv_start p s, by omega, by omega, by omega, by omega⟩, drew_zero _⟩
  case round =>
    obtain ⟨HH, m, rfl⟩ := hrel
    rcases HH with ⟨rfl, HF⟩ | ⟨b, r, i, k, rfl, rfl, rfl, rfl, HI, hb1, hb2, hg1, hg2⟩
    · have HF' := hid_of HF
      clear HF
      go_wp2
      rw [Exit.noGoto_ret]
      go_ret
      exact ⟨ret_b HF'.out.symm, m, rfl⟩
    · have HI' := hid_of HI
      have hbd : i ≤ p.size ∧ k ≤ s.size ∧ r ≤ k + 1 := ⟨HI.1, HI.2.1, HI.2.2.1⟩
      clear HI
      have ht : ((i : Int) != -1) = true := by simp
      obtain ⟨gO, rfl⟩ : ∃ gO, gk = gO + 1 := ⟨gk - 1, by omega⟩
      go_wp2
      go_loopg [5, 6, 7, 8] (p.size - i) (fun g2 s5 s6 s7 s8 wy => ∃ (b' : Int) (r' i' k' : Nat), s5 = .int .i64 b' ∧ s6 = .int .i64 r' ∧ s7 = .int .i64 i' ∧ s8 = .int .i64 k' ∧ Hid (Inv p s (MM p s 0 0) i' k' b' r') ∧ -1 ≤ b' ∧ b' ≤ p.size ∧ i' ≤ p.size ∧ k' ≤ s.size ∧ r' ≤ k' + 1 ∧ r ≤ r' ∧ p.size ≤ i' + g2 ∧ ∃ m, wy = w.drewN m)
      case atStart => exact ⟨b, r, i, k, rfl, rfl, rfl, rfl, HI', hb1, hb2, hbd.1, hbd.2.1, hbd.2.2, Nat.le_refl _, by omega, m, rfl⟩
      case round =>
        clear HI' ht hb1 hb2 hbd
        obtain ⟨b1, r1, i1, k1, rfl, rfl, rfl, rfl, HI, hb1, hb2, hi1, hk1, hr1, hr2, hg3, m, rfl⟩ := hrel
        by_cases hlt : i1 < p.size
        · by_cases e42 : p[i1].toNat = 42
          · have ht : ((p[i1].toNat : Int) == 42) = true := by rw [e42]; rfl
            have HN := hid_of (inv_star HI.out hlt e42)
            clear e42 HI
            obtain ⟨g', rfl⟩ : ∃ g', gk = g' + 1 := ⟨gk - 1, by omega⟩
            go_wp2
            go_roundg g'
            case measure => omega
            case rel => exact ⟨(i1 : Int) + 1, k1 + 1, i1 + 1, k1, rfl, rfl, rfl, rfl, HN, by omega, by omega, hlt, hk1, by omega, by omega, by omega, m, rfl⟩
          · have ht : ((p[i1].toNat : Int) == 42) = false := by simp; omega
            by_cases hke : k1 = s.size
            · have HF := hid_of (inv_none HI.out hlt e42 hke)
              have ht2 : ((k1 : Int) == s.size) = true := by simp; omega
              clear e42 HI hke
              go_wp2
              rw [Exit.noGoto_ret]
              go_ret
              exact ⟨ret_b HF.out.symm, m, rfl⟩
            · have hks : k1 < s.size := by omega
              have ht2 : ((k1 : Int) == s.size) = false := by simp; omega
              have HC := hid_of (fun w => piece_any p i1 s[k1].toNat w hp hlt s[k1].toNat_lt)
              cases hx : PT p s[k1].toNat i1 with
              | false =>
                have HB := hid_of (inv_no HI.out hlt e42 hks hx)
                rw [hx] at HC
                clear e42 HI hke hx
                go_wp2_with (go_at_call 18; refine (HC.out _).mono ?_; rintro e w1 ⟨rfl, m1, rfl⟩)
                go_roundg gO
                case measure => omega
                case rel => exact ⟨head_next HB.out hb1 hb2 hr2 hg2, _, rfl⟩
              | true =>
                have HN := hid_of (inv_yes HI.out hlt e42 hks hx)
                have hn1 := PN_gt hlt
                have hn2 := PN_le hi1
                rw [hx] at HC
                clear e42 HI hke hx
                obtain ⟨g', rfl⟩ : ∃ g', gk = g' + 1 := ⟨gk - 1, by omega⟩
                go_wp2_with (go_at_call 18; refine (HC.out _).mono ?_; rintro e w1 ⟨rfl, m1, rfl⟩)
                go_roundg g'
                case measure => omega
                case rel => exact ⟨b1, r1, PN p i1, k1 + 1, rfl, rfl, rfl, rfl, HN, hb1, hb2, hn2, hks, by omega, hr2, by omega, _, rfl⟩
        · by_cases hke : k1 = s.size
          · have HF := hid_of (inv_full HI.out (by omega) hke)
            have ht2 : ((k1 : Int) == s.size) = true := by simp; omega
            clear HI hke
            go_wp2
            rw [Exit.noGoto_ret]
            go_ret
            exact ⟨ret_b HF.out.symm, m, rfl⟩
          · have HB := hid_of (inv_over HI.out (by omega) hke)
            have ht2 : ((k1 : Int) == s.size) = false := by simp; omega
            clear HI hke
            go_wp2
            go_roundg gO
            case measure => omega
            case rel => exact ⟨head_next HB.out hb1 hb2 hr2 hg2, m, rfl⟩
end Go.Proofs.Ytaglcpjjekaohaa.Match
