/- NumSpoilt's two roads, walked: no byte is spoilt; one byte is. -/
import Derived.Test.YtkiejncaleondabMore
import Derived.Lib.SlBytesRow
import Derived.Lib.ConvBytes
import Derived.Deep.RegionWith
namespace Go.Proofs.Ytkiejncaleondab.Spoilt
open Go.RowKit
open Go.Proofs.Ytkiejncaleondab.CrcMath
open Go.Proofs.Ytkiejncaleondab.Crc
set_option linter.unusedVariables false

theorem bel {B : Nat} {a b c : World} (h : Below B a b) (k : Below b.heap.size b c) (hB : B ≤ a.heap.size) : Below B a c := h.trans (k.mono (Nat.le_trans hB h.size))

/-- what is carried through the last statement: old memory stands, and the row at g holds the bytes t -/
structure Inv (w : World) (g : Nat) (t : ByteArray) (W : World) : Prop where
  below : Below w.heap.size w W
  lt : g < W.heap.size
  row : Lib.Bytes W g 0 t
theorem Inv.drew {w W : World} {g : Nat} {t : ByteArray} (h : Inv w g t W) : Inv w g t W.drew := ⟨h.below.drew, h.lt, h.row⟩
theorem Inv.next {w W W' : World} {g : Nat} {t : ByteArray} (h : Inv w g t W) (hb : Below W.heap.size W W') : Inv w g t W' :=
  ⟨bel h.below hb (Nat.le_refl _), Nat.lt_of_lt_of_le h.lt hb.size, fun i hi => (hb.cell (p := ⟨g, 0 + i, none⟩) h.lt).trans (h.row i hi)⟩
theorem Inv.conv {w W : World} {g : Nat} {t : ByteArray} (h : Inv w g t W) (n cap : Nat) (hn : t.size = n) : (convert 30 9 (.slice (some ⟨g, 0, none⟩) n cap)).run Try.prog W = .ok (.string t) W := by
  have := Lib.run_convert_whole (P := Try.prog) W 30 5 9 Try.underlying30 Try.underlying5 Try.underlying9 g 0 t h.row cap
  rwa [hn] at this

set_option maxHeartbeats 1000000 in
theorem spoilt_walk (s t : ByteArray) (a1 c : Int) (i g cap : Nat) (c1 c2 x : Int) (w W1 : World) (h1 : 1 ≤ s.size) (hs : s.size ≤ 140737488351232) (ha : 0 ≤ a1) (ha' : a1 ≤ 9223372036854775807) (hc0 : 1 ≤ c) (hc : c ≤ 255)
    (hi : a1 % (s.size : Int) = (i : Int)) (hlt : i < s.size) (hne : (c1 != c2) = true) (htn : t.size = s.size)
    (hconv : (convert 9 30 (.string s)).run Try.prog w = .ok (.slice (some ⟨g, 0, none⟩) s.size cap) W1)
    (hcell : W1.cell? ⟨g, i, none⟩ = some (.int .u8 x)) (hfz : W1.frozen? ⟨g, i, none⟩ = false)
    (hinv : Inv w g t (W1.setCell ⟨g, i, none⟩ (.int .u8 (bits .xor .u8 x c))))
    (k1 : Hid (∀ W, Inv w g t W → Calls Try.prog 8 #[.string s] W fun e w' => e = .returned (.int .u32 c1) ∧ Inv w g t w'))
    (k2 : Hid (∀ W, Inv w g t W → Calls Try.prog 8 #[.string t] W fun e w' => e = .returned (.int .u32 c2) ∧ Inv w g t w')) :
    Calls Try.prog 5 #[.string s, .int .i64 a1, .int .u8 c] w fun e w' => e = .returned (.bool true) ∧ Below w.heap.size w w' := by
  have t1 : ((s.size : Int) == 0) = false := by rw [beq_eq_false_iff_ne]; omega
  have t2 : (c == 0) = false := by rw [beq_eq_false_iff_ne]; omega
  have hI := hid_of hinv
  clear hinv
  go_enter Try.func5, Try.ntmps5
  go_wp2
  generalize W1.setCell ⟨g, i, none⟩ (.int .u8 (bits .xor .u8 x c)) = W2 at *
  have hi0 := hI.out
  have hi1 := hi0.drew
  have q0 := hi0.conv s.size cap htn
  have q1 := hi1.conv s.size cap htn
  clear hconv hcell hfz hI hi
  go_region_with (first | (go_at_call_of 8 (Value.string s); refine (k1.out _ (by first | assumption | exact Inv.drew (by assumption))).mono ?_; rintro e w1 ⟨rfl, hj1⟩; have q2 := hj1.conv s.size cap htn) | (go_at_call_of 8 (Value.string t); refine (k2.out _ (by first | assumption | exact Inv.drew (by assumption))).mono ?_; rintro e w2 ⟨rfl, hj2⟩))
  all_goals
    go_wp2
    go_ret
    refine ⟨rfl, ?_⟩
    first | exact hj2.below | exact hj1.below

set_option maxHeartbeats 1000000 in
theorem plain_walk (s : ByteArray) (a1 c : Int) (w : World) (hs : s.size ≤ 140737488351232) (h : s.size = 0 ∨ (1 ≤ s.size ∧ c = 0) ∨ (1 ≤ s.size ∧ 1 ≤ c ∧ a1 < 0)) (x y : Int)
    (k0 : Hid (∀ W, Calls Try.prog 8 #[.string ⟨#[]⟩] W fun e w' => e = .returned (.int .u32 0) ∧ Below W.heap.size W w'))
    (k1 : Hid (∀ W, Calls Try.prog 8 #[.string ⟨#[97]⟩] W fun e w' => e = .returned (.int .u32 x) ∧ Below W.heap.size W w'))
    (k2 : Hid (∀ W, Calls Try.prog 12 #[.string ⟨#[97]⟩] W fun e w' => e = .returned (.int .u32 x) ∧ w' = W)) :
    Calls Try.prog 5 #[.string s, .int .i64 a1, .int .u8 c] w fun e w' => e = .returned (.bool true) ∧ Below w.heap.size w w' := by
  have fin : ∀ t1 t2 : Bool, ((s.size : Int) == 0) = t1 → (c == 0) = t2 → decide (a1 < 0) = true ∨ t1 = true ∨ t2 = true →
      Calls Try.prog 5 #[.string s, .int .i64 a1, .int .u8 c] w fun e w' => e = .returned (.bool true) ∧ Below w.heap.size w w' := by
    intro t1 t2 e1 e2 e3
    cases t1 <;> cases t2
    case false.false =>
      have e4 : decide (a1 < 0) = true := by simpa using e3
      clear e3
      go_enter Try.func5, Try.ntmps5
      go_wp2_with fail
      refine (k0.out _).mono ?_
      rintro e v1 ⟨rfl, b1⟩
      go_wp2_with fail
      refine (k1.out _).mono ?_
      rintro e v2 ⟨rfl, b2⟩
      go_wp2_with fail
      refine (k2.out _).mono ?_
      rintro e v3 ⟨rfl, rfl⟩
      go_wp2
      go_ret
      exact ⟨rfl, bel b1 b2 (Nat.le_refl _)⟩
    all_goals
      clear e3
      go_enter Try.func5, Try.ntmps5
      go_wp2_with fail
      refine (k0.out _).mono ?_
      rintro e v1 ⟨rfl, b1⟩
      go_wp2_with fail
      refine (k1.out _).mono ?_
      rintro e v2 ⟨rfl, b2⟩
      go_wp2_with fail
      refine (k2.out _).mono ?_
      rintro e v3 ⟨rfl, rfl⟩
      go_wp2
      go_ret
      exact ⟨rfl, bel b1 b2 (Nat.le_refl _)⟩
  refine fin _ _ rfl rfl ?_
  rcases h with h | ⟨_, h⟩ | ⟨_, _, h⟩
  · exact .inr (.inl (by rw [beq_iff_eq]; omega))
  · exact .inr (.inr (by rw [beq_iff_eq]; exact h))
  · exact .inl (by simpa using h)
end Go.Proofs.Ytkiejncaleondab.Spoilt
