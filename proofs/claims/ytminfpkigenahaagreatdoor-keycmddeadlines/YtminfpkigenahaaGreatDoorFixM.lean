/- The contracts of num.Fix and of the document's own Fix. -/
import Derived.Test.YtminfpkigenahaaGreatDoorRows
import Derived.Test.YtminfpkigenahaaGreatDoorFixMathM
import Derived.WalkKit
import Derived.Below
namespace Go.Proofs.YtminfpkigenahaaGreatDoor.Fix
open Go.RowKit
open Go.Proofs.YtminfpkigenahaaGreatDoor.FixMath
set_option linter.unusedVariables false

theorem hid_of {p : Prop} (h : p) : Hid p := h
theorem ret_si {a b : ByteArray} {c d : Int} (h1 : a = b) (h2 : c = d) : Ending.returned (.tuple #[.string a, .int .i64 c]) = .returned (.tuple #[.string b, .int .i64 d]) := by rw [h1, h2]
theorem info5 : (Tryz.prog.info? 5).map (fun i => (i.zero, i.size, i.bytes)) = some (some (.int .u8 0), 1, 1) := by kernel_rfl
theorem made_row (u : Int) (n : Nat) : (madeCells #[Value.int .u8 0] n).toList = rowK u n 0 := by
  rw [rowK_zero]; exact toList_madeCells_one _ n
theorem bytes_of_row {w : World} {B base : Nat} {u : Int} {n cap : Nat} (h : w.ownsRow base 5 1 (.slice (some ⟨B, 0, none⟩) n cap) n (rowC u n)) : Lib.Bytes w B 0 ⟨(leY u n).toArray⟩ := by
  intro i hi
  have hi' : i < n := by rw [size_of, leY_len] at hi; exact hi
  rw [Nat.zero_add, h.cellAt i (by omega), rowC_get u n i hi']
  have : (⟨(leY u n).toArray⟩ : ByteArray)[i] = (leY u n)[i]'(by rw [leY_len]; exact hi') := rfl
  rw [this, leY_toNat]
theorem conv_row {w : World} {B base : Nat} {u : Int} {n cap : Nat} (h : w.ownsRow base 5 1 (.slice (some ⟨B, 0, none⟩) n cap) n (rowC u n)) :
    (convert 105 9 (.slice (some ⟨B, 0, none⟩) n cap)).run Tryz.prog w = .ok (.string ⟨(leY u n).toArray⟩) w := by
  have := Lib.run_convert_whole (P := Tryz.prog) w 105 5 9 Tryz.underlying105 Tryz.underlying5 Tryz.underlying9 B 0 _ (bytes_of_row h) cap
  rwa [size_of, leY_len] at this
theorem step_row {w wr : World} {u : Int} {n k : Nat} (hown : wr.ownsRow w.heap.size 5 1 (.slice (some ⟨w.heap.size, 0, none⟩) n n) n (rowK u n k)) (hnx : Below w.heap.size w wr) :
    (wr.setCell ⟨w.heap.size, k, none⟩ (.int .u8 (u / 2 ^ (8 * k) % 256))).ownsRow w.heap.size 5 1 (.slice (some ⟨w.heap.size, 0, none⟩) n n) n (rowK u n (k + 1)) ∧
      Below w.heap.size w (wr.setCell ⟨w.heap.size, k, none⟩ (.int .u8 (u / 2 ^ (8 * k) % 256))) := by
  have h := hown.stored k (.int .u8 (bt u k))
  rw [rowK_succ] at h
  exact ⟨h.1, hnx.setCell (Nat.le_refl _) _⟩

set_option maxHeartbeats 1000000 in
set_option maxRecDepth 100000 in
theorem fix_ok (u : Int) (n : Nat) (w : World) (hu0 : 0 ≤ u) (hu : u ≤ 18446744073709551615) (h1 : 1 ≤ n) (h8 : n ≤ 8) (hf : (u / 2 ^ (8 * n) != 0) = false) :
    Calls Tryz.prog 227 #[.int .u64 u, .int .i64 n] w fun e w' => e = .returned (.tuple #[.string ⟨(leY u n).toArray⟩, .int .i64 0]) ∧ Below w.heap.size w w' := by
  obtain ⟨i0, hi, hz0, hz1, hz2⟩ := info_parts info5
  go_enter Tryz.func227, Tryz.ntmps227
  go_wp2_with (at_make; refine wpList_make_full _ rfl _ _ 105 rfl w.heap.size 5 i0 (.int .u8 0) 1 Tryz.underlying105 hi hz0 hz1 _ _ _ _ n rfl rfl rfl rfl ?b2 ?b3 (Nat.le_refl _) ?_)
  case b2 => rw [hz2]; omega
  case b3 => unfold maxLen; omega
  intro w0 hown0 hgrow0
  rw [made_row u n] at hown0
  go_wp2
  go_loopw [24] (fun i wr => ∃ k : Nat, k ≤ n ∧ i = .int .i64 k ∧ wr.ownsRow w.heap.size 5 1 (.slice (some ⟨w.heap.size, 0, none⟩) n n) n (rowK u n k) ∧ Below w.heap.size w wr) (fun i _ => n - (intOf i).toNat)
  case atStart => exact ⟨0, Nat.zero_le _, rfl, hown0, (Below.refl _ _).grown hgrow0 (Nat.le_refl _) (fun k h => by cases h)⟩
  case round =>
    obtain ⟨k, hk, rfl, hown, hnx⟩ := hrel
    by_cases hlt : k < n
    · have hc := (hown.cellAt k (by omega)).trans (rowK_get u n k k hlt)
      have hz := hown.frozenAt k
      go_wp2
      exact ⟨⟨k + 1, hlt, by go_num, step_row hown hnx⟩, by simp [intOf]; omega⟩
    · have hkn : k = n := by omega
      subst hkn
      rw [rowK_end] at hown
      have hconv := conv_row hown
      go_wp2
      go_ret2
      exact ⟨rfl, hnx⟩

set_option maxHeartbeats 1000000 in
set_option maxRecDepth 100000 in
theorem fix_over (u : Int) (n : Nat) (w : World) (hu0 : 0 ≤ u) (hu : u ≤ 18446744073709551615) (h1 : 1 ≤ n) (h8 : n ≤ 8) (hf : (u / 2 ^ (8 * n) != 0) = true) :
    Calls Tryz.prog 227 #[.int .u64 u, .int .i64 n] w fun e w' => e = .returned (.tuple #[.string ByteArray.empty, .int .i64 12]) ∧ Below w.heap.size w w' := by
  go_enter Tryz.func227, Tryz.ntmps227
  go_wp2
  go_ret2
  exact ⟨rfl, Below.refl _ _⟩

set_option maxHeartbeats 1000000 in
set_option maxRecDepth 100000 in
theorem fix_no (u n : Int) (w : World) (h : n < 1 ∨ 8 < n) :
    Calls Tryz.prog 227 #[.int .u64 u, .int .i64 n] w fun e w' => e = .returned (.tuple #[.string ByteArray.empty, .int .i64 12]) ∧ Below w.heap.size w w' := by
  rcases h with h | h
  all_goals
    go_enter Tryz.func227, Tryz.ntmps227
    go_wp2
    go_ret2
    exact ⟨rfl, Below.refl _ _⟩

theorem step_app {w wr w1 : World} {u y : Int} {k : Nat} {v v' : Value} {c : Value} (HY : Hid (y = u / 2 ^ (8 * k))) (hown : wr.ownsRow w.heap.size 5 1 v k (rowC u k)) (hnx : Below w.heap.size w wr)
    (hown' : w1.ownsRow w.heap.size 5 1 v' (k + 1) (rowC u k ++ [Value.int .u8 (y % 256)])) (hgrow : (wr.alloc (.cells #[c] 5)).grownBy w1 v.ownBlock) :
    w1.ownsRow w.heap.size 5 1 v' (k + 1) (rowC u (k + 1)) ∧ Below w.heap.size w w1 := by
  have e : y % 256 = bt u k := by rw [HY.out]; rfl
  rw [e, rowC_succ] at hown'
  have hs := hnx.size
  exact ⟨hown', (hnx.alloc hs _).grown hgrow (by simp; omega) (fun j hj => (hown.lt j hj).1)⟩
theorem own_shape {w : World} {base : Nat} {v : Value} {n : Nat} {xs : List Value} (h : w.ownsRow base 5 1 v n xs) (hn : 1 ≤ n) : ∃ g cap, v = .slice (some ⟨g, 0, none⟩) n cap := by
  rcases h.2 with ⟨_, e⟩ | ⟨g, cap, cur, e, _⟩
  · omega
  · exact ⟨g, cap, e⟩
theorem hid_next {u y : Int} {k : Nat} (HY : Hid (y = u / 2 ^ (8 * k))) : Hid (y / 256 = u / 2 ^ (8 * (k + 1))) := by
  show y / 256 = _
  rw [HY.out, quo_step]
def fixS (u : Int) (n : Nat) : ByteArray := if (u / 2 ^ (8 * n) != 0) = true then ByteArray.empty else ⟨(leY u n).toArray⟩
def fixE (u : Int) (n : Nat) : Int := if (u / 2 ^ (8 * n) != 0) = true then 12 else 0

theorem fix_any (u : Int) (n : Nat) (w : World) (hu0 : 0 ≤ u) (hu : u ≤ 18446744073709551615) (h1 : 1 ≤ n) (h8 : n ≤ 8) :
    Calls Tryz.prog 227 #[.int .u64 u, .int .i64 n] w fun e w' => e = .returned (.tuple #[.string (fixS u n), .int .i64 (fixE u n)]) ∧ Below w.heap.size w w' := by
  unfold fixS fixE
  cases h : (u / 2 ^ (8 * n) != 0)
  · exact fix_ok u n w hu0 hu h1 h8 h
  · exact fix_over u n w hu0 hu h1 h8 h
end Go.Proofs.YtminfpkigenahaaGreatDoor.Fix
