/- The contracts of num.Fix and of the document's own Fix. -/
import Derived.Test.YtdcnkdkhanmklaaRows
import Derived.Test.YtdcnkdkhanmklaaMath
import Derived.WalkKit
import Derived.Below
namespace Go.Proofs.Ytdcnkdkhanmklaa.Fix
open Go.RowKit
open Go.Proofs.Ytdcnkdkhanmklaa.FixMath
set_option linter.unusedVariables false

theorem hid_of {p : Prop} (h : p) : Hid p := h
theorem ret_si {a b : ByteArray} {c d : Int} (h1 : a = b) (h2 : c = d) : Ending.returned (.tuple #[.string a, .int .i64 c]) = .returned (.tuple #[.string b, .int .i64 d]) := by rw [h1, h2]
theorem info5 : (Try.prog.info? 5).map (fun i => (i.zero, i.size, i.bytes)) = some (some (.int .u8 0), 1, 1) := by kernel_rfl
theorem made_row (u : Int) (n : Nat) : (madeCells #[Value.int .u8 0] n).toList = rowK u n 0 := by
  rw [rowK_zero]; exact toList_madeCells_one _ n
theorem bytes_of_row {w : World} {B base : Nat} {u : Int} {n cap : Nat} (h : w.ownsRow base 5 1 (.slice (some ⟨B, 0, none⟩) n cap) n (rowC u n)) : Lib.Bytes w B 0 ⟨(leY u n).toArray⟩ := by
  intro i hi
  have hi' : i < n := by rw [size_of, leY_len] at hi; exact hi
  rw [Nat.zero_add, h.cellAt i (by omega), rowC_get u n i hi']
  have : (⟨(leY u n).toArray⟩ : ByteArray)[i] = (leY u n)[i]'(by rw [leY_len]; exact hi') := rfl
  rw [this, leY_toNat]
theorem conv_row {w : World} {B base : Nat} {u : Int} {n cap : Nat} (h : w.ownsRow base 5 1 (.slice (some ⟨B, 0, none⟩) n cap) n (rowC u n)) :
    (convert 51 9 (.slice (some ⟨B, 0, none⟩) n cap)).run Try.prog w = .ok (.string ⟨(leY u n).toArray⟩) w := by
  have := Lib.run_convert_whole (P := Try.prog) w 51 5 9 Try.underlying51 Try.underlying5 Try.underlying9 B 0 _ (bytes_of_row h) cap
  rwa [size_of, leY_len] at this
theorem step_row {w wr : World} {u : Int} {n k : Nat} (hown : wr.ownsRow w.heap.size 5 1 (.slice (some ⟨w.heap.size, 0, none⟩) n n) n (rowK u n k)) (hnx : Below w.heap.size w wr) :
    (wr.setCell ⟨w.heap.size, k, none⟩ (.int .u8 (u / 2 ^ (8 * k) % 256))).ownsRow w.heap.size 5 1 (.slice (some ⟨w.heap.size, 0, none⟩) n n) n (rowK u n (k + 1)) ∧
      Below w.heap.size w (wr.setCell ⟨w.heap.size, k, none⟩ (.int .u8 (u / 2 ^ (8 * k) % 256))) := by
  have h := hown.stored k (.int .u8 (bt u k))
  rw [rowK_succ] at h
  exact ⟨h.1, hnx.setCell (Nat.le_refl _) _⟩

set_option maxHeartbeats 1000000 in
set_option maxRecDepth 100000 in
theorem fix_ok (u : Int) (n : Nat) (w : World) (hu0 : 0 ≤ u) (hu : u ≤ 18446744073709551615) (h1 : 1 ≤ n) (h8 : n ≤ 8) (hf : (u / 2 ^ (8 * n) != 0) = false) :
    Calls Try.prog 88 #[.int .u64 u, .int .i64 n] w fun e w' => e = .returned (.tuple #[.string ⟨(leY u n).toArray⟩, .int .i64 0]) ∧ Below w.heap.size w w' := by
  obtain ⟨i0, hi, hz0, hz1, hz2⟩ := info_parts info5
  go_enter Try.func88, Try.ntmps88
  go_wp2_with (at_make; refine wpList_make_full _ rfl _ _ 51 rfl w.heap.size 5 i0 (.int .u8 0) 1 Try.underlying51 hi hz0 hz1 _ _ _ _ n rfl rfl rfl rfl ?b2 ?b3 (Nat.le_refl _) ?_)
  case b2 => rw [hz2]; omega
  case b3 => unfold maxLen; omega
  intro w0 hown0 hgrow0
  rw [made_row u n] at hown0
  go_wp2
  go_loopw [24] (fun i wr => ∃ k : Nat, k ≤ n ∧ i = .int .i64 k ∧ wr.ownsRow w.heap.size 5 1 (.slice (some ⟨w.heap.size, 0, none⟩) n n) n (rowK u n k) ∧ Below w.heap.size w wr) (fun i _ => n - (intOf i).toNat)
  case atStart => exact ⟨0, Nat.zero_le _, rfl, hown0, (Below.refl _ _).grown hgrow0 (Nat.le_refl _) (fun k h => by cases h)⟩
  case round =>
    obtain ⟨k, hk, rfl, hown, hnx⟩ := hrel
    by_cases hlt : k < n
    · have hc := (hown.cellAt k (by omega)).trans (rowK_get u n k k hlt)
      have hz := hown.frozenAt k
      go_wp2
      exact ⟨⟨k + 1, hlt, by go_num, step_row hown hnx⟩, by simp [intOf]; omega⟩
    · have hkn : k = n := by omega
      subst hkn
      rw [rowK_end] at hown
      have hconv := conv_row hown
      go_wp2
      go_ret2
      exact ⟨rfl, hnx⟩

set_option maxHeartbeats 1000000 in
set_option maxRecDepth 100000 in
theorem fix_over (u : Int) (n : Nat) (w : World) (hu0 : 0 ≤ u) (hu : u ≤ 18446744073709551615) (h1 : 1 ≤ n) (h8 : n ≤ 8) (hf : (u / 2 ^ (8 * n) != 0) = true) :
    Calls Try.prog 88 #[.int .u64 u, .int .i64 n] w fun e w' => e = .returned (.tuple #[.string ByteArray.empty, .int .i64 12]) ∧ Below w.heap.size w w' := by
  go_enter Try.func88, Try.ntmps88
  go_wp2
  go_ret2
  exact ⟨rfl, Below.refl _ _⟩

set_option maxHeartbeats 1000000 in
set_option maxRecDepth 100000 in
theorem fix_no (u n : Int) (w : World) (h : n < 1 ∨ 8 < n) :
    Calls Try.prog 88 #[.int .u64 u, .int .i64 n] w fun e w' => e = .returned (.tuple #[.string ByteArray.empty, .int .i64 12]) ∧ Below w.heap.size w w' := by
  rcases h with h | h
  all_goals
    go_enter Try.func88, Try.ntmps88
    go_wp2
    go_ret2
    exact ⟨rfl, Below.refl _ _⟩

set_option maxHeartbeats 1000000 in
set_option maxRecDepth 100000 in
theorem rfix_no (u n : Int) (w : World) (h : n < 1 ∨ 8 < n) :
    Calls Try.prog 29 #[.int .u64 u, .int .i64 n] w fun e w' => e = .returned (.tuple #[.string ByteArray.empty, .int .i64 12]) ∧ Below w.heap.size w w' := by
  rcases h with h | h
  all_goals
    go_enter Try.func29, Try.ntmps29
    go_wp2
    go_ret2
    exact ⟨rfl, Below.refl _ _⟩

theorem step_app {w wr w1 : World} {u y : Int} {k : Nat} {v v' : Value} {c : Value} (HY : Hid (y = u / 2 ^ (8 * k))) (hown : wr.ownsRow w.heap.size 5 1 v k (rowC u k)) (hnx : Below w.heap.size w wr)
    (hown' : w1.ownsRow w.heap.size 5 1 v' (k + 1) (rowC u k ++ [Value.int .u8 (y % 256)])) (hgrow : (wr.alloc (.cells #[c] 5)).grownBy w1 v.ownBlock) :
    w1.ownsRow w.heap.size 5 1 v' (k + 1) (rowC u (k + 1)) ∧ Below w.heap.size w w1 := by
  have e : y % 256 = bt u k := by rw [HY.out]; rfl
  rw [e, rowC_succ] at hown'
  have hs := hnx.size
  exact ⟨hown', (hnx.alloc hs _).grown hgrow (by simp; omega) (fun j hj => (hown.lt j hj).1)⟩
theorem own_shape {w : World} {base : Nat} {v : Value} {n : Nat} {xs : List Value} (h : w.ownsRow base 5 1 v n xs) (hn : 1 ≤ n) : ∃ g cap, v = .slice (some ⟨g, 0, none⟩) n cap := by
  rcases h.2 with ⟨_, e⟩ | ⟨g, cap, cur, e, _⟩
  · omega
  · exact ⟨g, cap, e⟩
theorem hid_next {u y : Int} {k : Nat} (HY : Hid (y = u / 2 ^ (8 * k))) : Hid (y / 256 = u / 2 ^ (8 * (k + 1))) := by
  show y / 256 = _
  rw [HY.out, quo_step]
def fixS (u : Int) (n : Nat) : ByteArray := if (u / 2 ^ (8 * n) != 0) = true then ByteArray.empty else ⟨(leY u n).toArray⟩
def fixE (u : Int) (n : Nat) : Int := if (u / 2 ^ (8 * n) != 0) = true then 12 else 0

set_option maxHeartbeats 1000000 in
set_option maxRecDepth 100000 in
theorem rfix_any (u : Int) (n : Nat) (w : World) (hu0 : 0 ≤ u) (hu : u ≤ 18446744073709551615) (h1 : 1 ≤ n) (h8 : n ≤ 8) :
    Calls Try.prog 29 #[.int .u64 u, .int .i64 n] w fun e w' => e = .returned (.tuple #[.string (fixS u n), .int .i64 (fixE u n)]) ∧ Below w.heap.size w w' := by
  obtain ⟨i0, hi, hz0, hz1, hz2⟩ := info_parts info5
  go_enter Try.func29, Try.ntmps29
  go_wp2
  go_loopw [0, 6, 7] (fun x v i wr => ∃ k : Nat, ∃ y : Int, k ≤ n ∧ i = .int .i64 k ∧ x = .int .u64 y ∧ Hid (y = u / 2 ^ (8 * k)) ∧ wr.ownsRow w.heap.size 5 1 v k (rowC u k) ∧ Below w.heap.size w wr) (fun _ _ i _ => n - (intOf i).toNat)
  case atStart => exact ⟨0, u, Nat.zero_le _, rfl, rfl, (by show u = u / 2 ^ (8 * 0); simp), World.ownsRow_nil _ _ _ _, Below.refl _ _⟩
  case round =>
    obtain ⟨k, y, hk, rfl, rfl, HY, hown, hnx⟩ := hrel
    obtain ⟨y0, y1⟩ : 0 ≤ y ∧ y ≤ 18446744073709551615 := by rw [HY.out]; exact quo_bd u k hu0 hu
    by_cases hlt : k < n
    · go_wp2_with (at_builtin; refine wpList_append_own _ rfl _ _ 51 rfl w.heap.size 5 i0 (.int .u8 0) 1 1 Try.underlying51 hi hz0 hz1 hz2 rfl (by decide) _ _ _ rfl (hown.alloc _) ⟨wr.heap.size, 0, none⟩ 1 1 [.int .u8 (y % 256)] rfl rfl ?c1 ?c2 ?c3 ?c4 ?c5 ?_)
      case c1 =>
        intro j z hj
        match j, hj with
        | 0, hj => simp at hj; subst hj; simp [Addr.add]
      case c2 => intro z hz; simp at hz; subst hz; rfl
      case c3 => unfold maxLen; omega
      case c4 => omega
      case c5 => have := hnx.size; simp; omega
      intro v' w1 hown' hgrow _
      have R := step_app HY hown hnx hown' hgrow
      have HN := hid_next HY
      clear hown' hgrow hown
      go_wp2
      go_roundw
      case rel => exact ⟨k + 1, y / 256, hlt, by go_num, rfl, HN, R.1, R.2⟩
      case measure => simp [intOf]; omega
    · have hkn : k = n := by omega
      subst hkn
      obtain ⟨g, cap, hv⟩ := own_shape hown h1
      rw [hv] at hown ⊢
      have hconv := conv_row hown
      by_cases hy : 0 < y
      · have hE : fixE u k = 12 := by unfold fixE; rw [if_pos (by rw [bne_iff_ne, ← HY.out]; omega)]
        have hS : fixS u k = ByteArray.empty := by unfold fixS; rw [if_pos (by rw [bne_iff_ne, ← HY.out]; omega)]
        have HE := hid_of hE
        have HS := hid_of hS
        clear hE hS hconv hv
        go_wp2
        go_ret2
        exact ⟨ret_si HS.out.symm HE.out.symm, hnx⟩
      · have hE : fixE u k = 0 := by unfold fixE; rw [if_neg (by rw [bne_iff_ne, ← HY.out]; omega)]
        have hS : fixS u k = ⟨(leY u k).toArray⟩ := by unfold fixS; rw [if_neg (by rw [bne_iff_ne, ← HY.out]; omega)]
        have HE := hid_of hE
        have HS := hid_of hS
        clear hE hS hv
        go_wp2
        go_ret2
        exact ⟨ret_si HS.out.symm HE.out.symm, hnx⟩
theorem fix_any (u : Int) (n : Nat) (w : World) (hu0 : 0 ≤ u) (hu : u ≤ 18446744073709551615) (h1 : 1 ≤ n) (h8 : n ≤ 8) :
    Calls Try.prog 88 #[.int .u64 u, .int .i64 n] w fun e w' => e = .returned (.tuple #[.string (fixS u n), .int .i64 (fixE u n)]) ∧ Below w.heap.size w w' := by
  unfold fixS fixE
  cases h : (u / 2 ^ (8 * n) != 0)
  · exact fix_ok u n w hu0 hu h1 h8 h
  · exact fix_over u n w hu0 hu h1 h8 h
end Go.Proofs.Ytdcnkdkhanmklaa.Fix
