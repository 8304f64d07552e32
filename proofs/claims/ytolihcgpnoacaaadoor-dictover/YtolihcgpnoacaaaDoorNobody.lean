/- The law DictNobody: a dict that Of did not give. -/
import Derived.Test.YtolihcgpnoacaaaDoorSure
namespace Go.Proofs.YtolihcgpnoacaaaDoor.Nobody
open Go.RowKit Go.Maps Go.Sort
open Go.Proofs.YtolihcgpnoacaaaDoor.DictMath
open Go.Proofs.YtolihcgpnoacaaaDoor.Base
open Go.Proofs.YtolihcgpnoacaaaDoor.Small
open Go.Proofs.YtolihcgpnoacaaaDoor.Rising
open Go.Proofs.YtolihcgpnoacaaaDoor.Fields
open Go.Proofs.YtolihcgpnoacaaaDoor.Incr
open Go.Proofs.YtolihcgpnoacaaaDoor.Sure
open Go.Proofs.YtolihcgpnoacaaaDoor.Parse
set_option linter.unusedVariables false

theorem fld_shape {w : World} {B : Nat} {v : Value} {xs : FL} (h : w.ownsRow B 52 2 v xs.length (xs.flatMap fCells)) : ∃ a c, v = .slice a xs.length c := by
  obtain ⟨a, c, e, _⟩ := fs_row h
  exact ⟨a, c, e⟩
set_option maxHeartbeats 2000000 in
set_option maxRecDepth 100000 in
theorem after_nil (s : ByteArray) (w : World) : Calls Tryd.prog 18 #[.pointer none, .string s, .int .i64 9] w fun e w' => FldE [] w e w' := by
  have H1 : Hid (∀ K w1, Calls Tryd.prog 32 #[.pointer none, K] w1 fun e w' => e = .returned (.slice none 0 0) ∧ w' = w1) := hid_of rising_nil
  have H2 : Hid (∀ w1, Calls Tryd.prog 34 #[.pointer none, .slice none 0 0] w1 fun e w' => FldE [] w1 e w') := hid_of fun w1 => fields_nil w1 (.pointer none) none 0
  have bA := hid_of ((Below.refl _ w).alloc (Nat.le_refl _) (.cells #[.string s] 9))
  have hcut : ∀ w, (Instr.slice 73 (.slice none 0 0) none (some (.int .i64 0)) none).run Tryd.prog w = .ok (.slice none 0 0) w := cut_hi none 0 0 0 0 rfl (Nat.le_refl _)
  go_enter Tryd.func18, Tryd.ntmps18
  go_wp2_with fail
  refine (H1.out _ _).mono ?_
  rintro e w1 hw1
  obtain ⟨rfl, hw⟩ := hw1
  rw [hw]
  clear hw
  go_wp2_with fail
  refine (H2.out _).mono ?_
  rintro e w2 hf
  have HF := hid_of hf
  obtain ⟨v2, rfl, _, _⟩ := hf
  go_wp2_with fail
  go_ret
  exact fld_later bA.out HF.out
set_option maxHeartbeats 4000000 in
set_option maxRecDepth 100000 in
theorem nobody_call (s : ByteArray) (n : Int) (w : World) (hs : s.size ≤ 140737488351232) (hn : -9223372036854775808 ≤ n ∧ n ≤ 9223372036854775807) (hh : Has w) : Calls Tryd.prog 4 #[.string s, .int .i64 n] w fun e w' => e = .returned (.bool true) ∧ Below w.heap.size w w' := by
  have HH := hid_of hh
  have H1 := hid_of (get_nil s w)
  have H2 := hid_of (incr_nil s n w)
  have H3 := hid_of (set_nil s s w)
  have H4 := hid_of (drop_nil s w)
  have H5 := hid_of (len_nil w)
  have H6 := hid_of (all_fields_nil w)
  have H7 := hid_of (after_nil s)
  have H8 := hid_of sure_call
  clear hh
  go_enter Tryd.func4, Tryd.ntmps4
  go_wp2_with fail
  refine H1.out.mono ?_
  rintro e w1 hw1
  obtain ⟨rfl, rfl⟩ := hw1
  go_wp2_with fail
  refine H2.out.mono ?_
  rintro e w1 hw1
  obtain ⟨rfl, rfl⟩ := hw1
  go_wp2_with fail
  refine H3.out.mono ?_
  rintro e w1 hw1
  obtain ⟨rfl, rfl⟩ := hw1
  go_wp2_with fail
  refine H4.out.mono ?_
  rintro e w1 hw1
  obtain ⟨rfl, rfl⟩ := hw1
  go_wp2_with fail
  refine H5.out.mono ?_
  rintro e w1 hw1
  obtain ⟨rfl, rfl⟩ := hw1
  go_wp2_with fail
  refine H6.out.mono ?_
  rintro e w2 ⟨v2, rfl, o2, bb⟩
  obtain ⟨a, c, rfl⟩ := fld_shape o2
  have B2 := hid_of bb
  clear o2 bb H6
  go_wp2_with fail
  refine (H7.out _).mono ?_
  rintro e w3 ⟨v3, rfl, o3, bb⟩
  obtain ⟨a3, c3, rfl⟩ := fld_shape o3
  have B3 := hid_of (Base.bel B2.out bb (Nat.le_refl _))
  clear o3 bb H7 B2
  go_wp2_with fail
  refine (H8.out _ (HH.out.later B3.out)).mono ?_
  rintro e w4 hw4
  obtain ⟨rfl, bb⟩ := hw4
  go_wp2_with fail
  go_ret
  exact ⟨rfl, Base.bel B3.out bb (Nat.le_refl _)⟩
end Go.Proofs.YtolihcgpnoacaaaDoor.Nobody
