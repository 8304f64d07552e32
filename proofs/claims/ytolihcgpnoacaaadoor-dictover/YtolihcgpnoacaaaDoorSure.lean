/- sure: what must come whatever the input is. -/
import Derived.Test.YtolihcgpnoacaaaDoorIncr
import Derived.Test.YtolihcgpnoacaaaDoorSame
namespace Go.Proofs.YtolihcgpnoacaaaDoor.Sure
open Go.RowKit Go.Maps Go.Sort
open Go.Lib (itoa)
open Go.Proofs.YtolihcgpnoacaaaDoor.DictMath
open Go.Proofs.YtolihcgpnoacaaaDoor.Base
open Go.Proofs.YtolihcgpnoacaaaDoor.Small
open Go.Proofs.YtolihcgpnoacaaaDoor.Of
open Go.Proofs.YtolihcgpnoacaaaDoor.Fields
open Go.Proofs.YtolihcgpnoacaaaDoor.Incr
open Go.Proofs.YtolihcgpnoacaaaDoor.Same
open Go.Proofs.YtolihcgpnoacaaaDoor.Parse
set_option linter.unusedVariables false

/- a dict that is there, all of it from B on, nothing below B turned -/
structure St (B : Nat) (w0 : World) (b m : Nat) (l : FL) (w : World) : Prop where
  dk : DK b m l w
  low : B ≤ b
  mlow : B ≤ m
  bel : Below B w0 w
theorem St.below {B : Nat} {w0 : World} {b m : Nat} {l : FL} {w w' : World} (h : St B w0 b m l w) (hB : B ≤ w0.heap.size) (hb : Below w.heap.size w w') : St B w0 b m l w' := ⟨h.dk.below hb, h.low, h.mlow, Base.bel h.bel hb hB⟩
theorem St.mv {B : Nat} {w0 : World} {b m : Nat} {l l' : FL} {w w' : World} (h : St B w0 b m l w) (hB : B ≤ w0.heap.size) (hd : DK b m l' w') (hm : Mv m w w') : St B w0 b m l' w' := ⟨hd, h.low, h.mlow, hm.below h.bel h.mlow hB⟩
theorem fs_two (w : World) (a b c d : ByteArray) : FS (w.alloc (.cells #[.string a, .string b, .string c, .string d] 52)) (.slice (some ⟨w.heap.size, 0, none⟩) 2 2) [(bs a, bs b), (bs c, bs d)] := by
  refine ⟨_, 2, rfl, Or.inr ⟨w.heap.size, 0, rfl, fun k hk => ?_⟩⟩
  have h := heap_alloc_new w (.cells #[.string a, .string b, .string c, .string d] 52)
  match k, hk with
  | 0, _ => exact ⟨by rw [Lib.cell_of_heap h]; show some (Value.string a) = some (.string (mk (bs a))); rw [mk_bs], by rw [Lib.cell_of_heap h]; show some (Value.string b) = some (.string (mk (bs b))); rw [mk_bs]⟩
  | 1, _ => exact ⟨by rw [Lib.cell_of_heap h]; show some (Value.string c) = some (.string (mk (bs c))); rw [mk_bs], by rw [Lib.cell_of_heap h]; show some (Value.string d) = some (.string (mk (bs d))); rw [mk_bs]⟩
theorem fs_one (w : World) (a b : ByteArray) : FS (w.alloc (.cells #[.string a, .string b] 52)) (.slice (some ⟨w.heap.size, 0, none⟩) 1 1) [(bs a, bs b)] := by
  refine ⟨_, 1, rfl, Or.inr ⟨w.heap.size, 0, rfl, fun k hk => ?_⟩⟩
  have h := heap_alloc_new w (.cells #[.string a, .string b] 52)
  match k, hk with
  | 0, _ => exact ⟨by rw [Lib.cell_of_heap h]; show some (Value.string a) = some (.string (mk (bs a))); rw [mk_bs], by rw [Lib.cell_of_heap h]; show some (Value.string b) = some (.string (mk (bs b))); rw [mk_bs]⟩
theorem itoa5 : itoa 5 = [53] := by kernel_rfl
theorem itoa1 : itoa 1 = [49] := by kernel_rfl
abbrev L0 : FL := [([97], [49]), ([98], [50])]
abbrev L1 : FL := [([97], [53]), ([98], [50])]
abbrev L2 : FL := [([97], [53]), ([98], [50]), ([99], [120])]
abbrev L3 : FL := [([97], [53]), ([98], [50]), ([99], [121])]
abbrev L4 : FL := [([97], [53]), ([99], [121])]
theorem ris0 : Ris L0 := by unfold Ris; decide
theorem ris_bad : ¬ Ris [([97], []), ([97], [])] := by unfold Ris; decide
theorem pd0 : Pd L0 [97] 1 0 := by
  have e : lkp L0 [97] = some [49] := by decide
  unfold Pd
  rw [e]
  exact Or.inl ⟨(TextMath.text_iff _ _).2 ⟨by unfold TextMath.InI; omega, itoa1⟩, rfl⟩
theorem inc0 : incrS L0 [97] 1 0 4 = (L1, 5, 0) := by
  have e : NumMath.fitB (1 + 4) = true := by decide
  unfold incrS
  rw [if_pos rfl, if_pos e, show (1 + 4 : Int) = 5 from rfl, itoa5]
  have : withL L0 [97] [53] = L1 := by decide
  rw [this]
def b1 (x : UInt8) : ByteArray := ⟨#[x]⟩
theorem eq24 (a : Nat) (w : World) : (binOp .eql 24 (.pointer (some ⟨a, 0, none⟩)) (.pointer none)).run Tryd.prog w = .ok (.bool false) w := by kernel_rfl
set_option maxHeartbeats 4000000 in
set_option maxRecDepth 100000 in
theorem sure_call (w : World) (hh : Has w) : Calls Tryd.prog 10 #[] w fun e w' => e = .returned (.bool true) ∧ Below w.heap.size w w' := by
  have HH := hid_of hh
  have H1 := hid_of (of_yes _ L0 _ (fs_two w (b1 97) (b1 49) (b1 98) (b1 50)) (by decide) ris0 (by decide))
  have BA := hid_of ((Below.refl _ w).alloc (Nat.le_refl _) (.cells #[.string (b1 97), .string (b1 49), .string (b1 98), .string (b1 50)] 52))
  unfold b1 at H1 BA
  clear hh
  go_enter Tryd.func10, Tryd.ntmps10
  go_wp2_with fail
  refine H1.out.mono ?_
  rintro e w1 ⟨b, m, rfl, d1, lb, lm, bb⟩
  have S1 : Hid (St w.heap.size w b m L0 w1) := hid_of ⟨d1, Nat.le_trans BA.out.size lb, Nat.le_trans BA.out.size lm, Base.bel BA.out bb (Nat.le_refl _)⟩
  have H2 := hid_of (of_no _ [([97], []), ([97], [])] _ (fs_two w1 (b1 97) ⟨#[]⟩ (b1 97) ⟨#[]⟩) (by decide) ris_bad)
  have BB := hid_of ((Below.refl _ w1).alloc (Nat.le_refl _) (.cells #[.string (b1 97), .string ⟨#[]⟩, .string (b1 97), .string ⟨#[]⟩] 52))
  unfold b1 at H2 BB
  clear d1 lb lm bb H1 BA
  unfold ptr
  go_wp2_with fail
  refine H2.out.mono ?_
  rintro e w2 hw2
  obtain ⟨rfl, bb⟩ := hw2
  have S2 := hid_of ((S1.out.below (Nat.le_refl _) BB.out).below (Nat.le_refl _) bb)
  have H3 := hid_of (incr_call b m L0 (b1 97) 1 0 4 w2 S2.out.dk (by decide) (by decide) (by decide) (by unfold NumMath.InI; omega) pd0 (HH.out.later S2.out.bel))
  unfold IncE at H3
  rw [show bs (b1 97) = [97] from rfl, inc0] at H3
  unfold b1 ptr at H3
  have q24 := eq24 b
  clear bb BB S1 H2
  go_wp2_with fail
  refine H3.out.mono ?_
  rintro e w3 hw3
  obtain ⟨rfl, d3, m3⟩ := hw3
  have S3 := hid_of (S2.out.mv (Nat.le_refl _) d3 m3)
  have H4 := hid_of (get_call b m L1 (b1 97) w3 S3.out.dk (by decide))
  rw [show valS L1 (bs (b1 97)) = ⟨#[53]⟩ from by decide, show ok L1 (bs (b1 97)) = true from by decide] at H4
  unfold b1 ptr at H4
  clear d3 m3 H3 S2
  go_wp2_with fail
  refine H4.out.mono ?_
  rintro e w4 hw4
  obtain ⟨rfl, bb⟩ := hw4
  have S4 := hid_of (S3.out.below (Nat.le_refl _) bb)
  have H5 := hid_of (set_call b m L1 (b1 99) (b1 120) w4 S4.out.dk (by decide) (by decide) (by decide))
  rw [show withL L1 (bs (b1 99)) (bs (b1 120)) = L2 from by decide, show ok L1 (bs (b1 99)) = false from by decide] at H5
  unfold b1 ptr at H5
  clear bb S3 H4
  go_wp2_with fail
  refine H5.out.mono ?_
  rintro e w5 hw5
  obtain ⟨rfl, d5, m5⟩ := hw5
  have S5 := hid_of (S4.out.mv (Nat.le_refl _) d5 m5)
  have H6 := hid_of (set_call b m L2 (b1 99) (b1 121) w5 S5.out.dk (by decide) (by decide) (by decide))
  rw [show withL L2 (bs (b1 99)) (bs (b1 121)) = L3 from by decide, show ok L2 (bs (b1 99)) = true from by decide] at H6
  unfold b1 ptr at H6
  clear d5 m5 S4 H5
  go_wp2_with fail
  refine H6.out.mono ?_
  rintro e w6 hw6
  obtain ⟨rfl, d6, m6⟩ := hw6
  have S6 := hid_of (S5.out.mv (Nat.le_refl _) d6 m6)
  have H7 := hid_of (drop_call b m L3 (b1 98) w6 S6.out.dk (by decide))
  rw [show wout L3 (bs (b1 98)) = L4 from by decide, show ok L3 (bs (b1 98)) = true from by decide] at H7
  unfold b1 ptr at H7
  clear d6 m6 S5 H6
  go_wp2_with fail
  refine H7.out.mono ?_
  rintro e w7 hw7
  obtain ⟨rfl, d7, m7⟩ := hw7
  have S7 := hid_of (S6.out.mv (Nat.le_refl _) d7 m7)
  have H8 := hid_of (drop_call b m L4 (b1 98) w7 S7.out.dk (by decide))
  rw [show wout L4 (bs (b1 98)) = L4 from by decide, show ok L4 (bs (b1 98)) = false from by decide] at H8
  unfold b1 ptr at H8
  clear d7 m7 S6 H7
  go_wp2_with fail
  refine H8.out.mono ?_
  rintro e w8 hw8
  obtain ⟨rfl, d8, m8⟩ := hw8
  have S8 := hid_of (S7.out.mv (Nat.le_refl _) d8 m8)
  have H9 := hid_of (len_call b m L4 w8 S8.out.dk)
  have H10 := hid_of (all_fields b m L4 w8 S8.out.dk (by decide))
  rw [show ((L4.length : Nat) : Int) = 2 from rfl] at H9
  unfold ptr at H9 H10
  clear d8 m8 S7 H8
  go_wp2_with fail
  refine H9.out.mono ?_
  rintro e w9 hw9
  obtain ⟨rfl, rfl⟩ := hw9
  go_wp2_with fail
  refine H10.out.mono ?_
  rintro e w10 ⟨v10, rfl, o10, bb⟩
  have S10 := hid_of (S8.out.below (Nat.le_refl _) bb)
  have b10 : Below w10.heap.size w10 (w10.alloc (.cells #[.string ⟨#[97]⟩, .string ⟨#[53]⟩, .string ⟨#[99]⟩, .string ⟨#[121]⟩] 52)) := (Below.refl _ _).alloc (Nat.le_refl _) _
  have H11 := hid_of (same_call v10 _ L4 L4 _ ((fs_row o10).below b10) (fs_two w10 (b1 97) (b1 53) (b1 99) (b1 121)) (by decide) (by decide))
  rw [decide_eq_true (rfl : L4 = L4)] at H11
  have S11 := hid_of (S10.out.below (Nat.le_refl _) b10)
  clear bb b10 o10 S8 H9 H10 S10
  go_wp2_with fail
  refine H11.out.mono ?_
  rintro e w11 hw11
  obtain ⟨rfl, bb⟩ := hw11
  have S12 := hid_of (S11.out.below (Nat.le_refl _) bb)
  have H12 := hid_of (after_call b m L4 (b1 97) 9 w11 S12.out.dk (by decide) (by decide) (by decide))
  rw [show (beh L4 (bs (b1 97))).take (9 : Int).toNat = [([99], [121])] from by decide] at H12
  unfold b1 ptr at H12
  clear bb S11 H11
  go_wp2_with fail
  refine H12.out.mono ?_
  rintro e w13 ⟨v13, rfl, o13, bb⟩
  have S13 := hid_of (S12.out.below (Nat.le_refl _) bb)
  have b13 : Below w13.heap.size w13 (w13.alloc (.cells #[.string ⟨#[99]⟩, .string ⟨#[121]⟩] 52)) := (Below.refl _ _).alloc (Nat.le_refl _) _
  have H13 := hid_of (same_call v13 _ [([99], [121])] [([99], [121])] _ ((fs_row o13).below b13) (fs_one w13 (b1 99) (b1 121)) (by decide) (by decide))
  rw [decide_eq_true (rfl : ([([99], [121])] : FL) = [([99], [121])])] at H13
  have S14 := hid_of (S13.out.below (Nat.le_refl _) b13)
  clear bb b13 o13 S12 H12 S13
  go_wp2_with fail
  refine H13.out.mono ?_
  rintro e w14 hw14
  obtain ⟨rfl, bb⟩ := hw14
  have S15 := hid_of (S14.out.below (Nat.le_refl _) bb)
  clear bb S14
  go_wp2_with fail
  go_ret
  exact ⟨rfl, S15.out.bel⟩
end Go.Proofs.YtolihcgpnoacaaaDoor.Sure
