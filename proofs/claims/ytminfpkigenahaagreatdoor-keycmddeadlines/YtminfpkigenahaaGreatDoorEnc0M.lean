/- Encode, Weight: the program's. Encode, Weight: the program's. -/
import Derived.Test.YtminfpkigenahaaGreatDoorWriteM
import Derived.Test.YtminfpkigenahaaGreatDoorCheckM
section
namespace Go.Proofs.YtminfpkigenahaaGreatDoor.Enc0
open Go.RowKit Go.Maps
open Go.Proofs.YtminfpkigenahaaGreatDoor.SetMath
open Go.Proofs.YtminfpkigenahaaGreatDoor.BytesMath
open Go.Proofs.YtminfpkigenahaaGreatDoor.FixMath
open Go.Proofs.YtminfpkigenahaaGreatDoor.ValueMath
open Go.Proofs.YtminfpkigenahaaGreatDoor.Base
open Go.Proofs.YtminfpkigenahaaGreatDoor.Vals
open Go.Proofs.YtminfpkigenahaaGreatDoor.Builder (Kp)
open Go.Proofs.YtminfpkigenahaaGreatDoor.Write
open Go.Proofs.YtminfpkigenahaaGreatDoor.Write2
open Go.Proofs.YtminfpkigenahaaGreatDoor.Check0
open Go.Proofs.YtminfpkigenahaaGreatDoor.Check
set_option linter.unusedVariables false
set_option linter.unusedSimpArgs false

set_option maxHeartbeats 4000000 in
set_option maxRecDepth 100000 in
theorem eraw1 (X : ByteArray) (aa ba ca : Option Addr) (an bn cn ac bc cc : Nat) (N : Nat) (full : Bs) (w : World) (hN : N + 1 ≤ 140737488355328)
    (HCk : Hid (∀ W, Below w.heap.size w W → Calls Tryz.prog 20 #[.agg #[.int .i64 1, .string X, .slice aa an ac, .slice ba bn bc, .slice ca cn cc]] W fun e w' => e = .returned (.tuple #[.iface 106 (.string X), .int .i64 0]) ∧ Below W.heap.size W w'))
    (HWt : Hid (∀ W, Below w.heap.size w W → Calls Tryz.prog 223 #[.string X] W fun e w' => e = .returned (.int .i64 (N : Int)) ∧ Below W.heap.size W w'))
    (HWr : Hid (∀ W B b, Below w.heap.size w W → w.heap.size ≤ B → B ≤ W.heap.size → BA B b [1] W → Calls Tryz.prog 224 #[.string X, ptr b] W fun e w' => e = .returned (.tuple #[]) ∧ BA B b full w' ∧ Kp B b W w')) :
    Calls Tryz.prog 75 #[.agg #[.int .i64 1, .string X, .slice aa an ac, .slice ba bn bc, .slice ca cn cc]] w fun e w' => e = .returned (.tuple #[.string (mk full), .int .i64 0]) ∧ Below w.heap.size w w' := by
  obtain ⟨V, hV⟩ : ∃ V, V = w.alloc (.cells #[.int .i64 1, .string X, .slice aa an ac, .slice ba bn bc, .slice ca cn cc] 30) := ⟨_, rfl⟩
  have bV : Below w.heap.size w V := by rw [hV]; exact FRow.bnew w _
  have sV : V.heap.size = w.heap.size + 1 := by rw [hV]; simp
  have v0 : V.heap[w.heap.size]? = some (.cells #[.int .i64 1, .string X, .slice aa an ac, .slice ba bn bc, .slice ca cn cc] 30 (0, 0)) := by rw [hV]; exact heap_alloc_new w _
  have HV := hid_of hV
  have HB := hid_of bV
  have HX := hid_of fun (W : World) (hW : Below V.heap.size V W) => (hW.block _ (lt_of v0)).trans v0
  have HS := hid_of sV
  clear v0 bV hV sV
  go_enter Tryz.func75, Tryz.ntmps75
  go_wp2_with fail
  rw [← HV.out]
  refine (HCk.out V HB.out).mono ?_
  rintro e w1 ⟨rfl, b1⟩
  have B1 := hid_of b1
  have BB := hid_of (FRow.bel HB.out b1 (Nat.le_refl _))
  have hsz : w.heap.size + 1 ≤ w1.heap.size := by have := b1.size; have := HS.out; omega
  clear b1 HCk
  obtain ⟨W, hW⟩ : ∃ W, W = w1.alloc (.cells #[.pointer none, .slice none 0 0] 164) := ⟨_, rfl⟩
  have bW : Below w1.heap.size w1 W := by rw [hW]; exact FRow.bnew w1 _
  have w0 : W.heap[w1.heap.size]? = some (.cells #[.pointer none, .slice none 0 0] 164 (0, 0)) := by rw [hW]; exact heap_alloc_new w1 _
  have HW := hid_of hW
  have BW := hid_of bW
  have HW0 := hid_of w0
  clear bW w0 hW
  go_wp2_with fail
  rw [← HW.out]
  refine (HWt.out W (FRow.bel BB.out BW.out (Nat.le_refl _))).mono ?_
  rintro e w2 ⟨rfl, b2⟩
  have HG := hid_of (Tryz.Builder_Grow_fresh w1.heap.size w1.heap.size (N + 1) w2 (Nat.le_refl _) ((b2.block _ (lt_of HW0.out)).trans HW0.out) (Nat.le_trans BW.out.size b2.size) (by omega))
  have B2 := hid_of (FRow.bel BW.out b2 (Nat.le_refl _))
  have n1 : IntKind.i64.wrap (1 + (N : Int)) = ((N + 1 : Nat) : Int) := by rw [show ((N + 1 : Nat) : Int) = 1 + (N : Int) by omega]; exact IntWalk.i64_in _ (by omega)
  obtain ⟨M, hM⟩ : ∃ M, M = N + 1 := ⟨_, rfl⟩
  rw [← hM] at HG n1
  clear b2 HWt hM
  go_wp2_with fail
  refine HG.out.mono ?_
  rintro e w3 ⟨rfl, d3, b3⟩
  have d3' : BA w1.heap.size w1.heap.size [] w3 := d3
  have bb3 : Below w1.heap.size w1 w3 := B2.out.trans b3
  have x3 := HX.out w3 (FRow.bel B1.out bb3 (Nat.le_refl _))
  obtain ⟨⟨c0, _, _, _, _⟩, _⟩ := box5 x3
  have HP := hid_of (byte_call w1.heap.size w1.heap.size [] 1 w3 d3' (by decide) (Nat.le_trans B2.out.size b3.size))
  have B3 := hid_of bb3
  have u8 : IntKind.u8.wrap (1 : Int) = 1 := by decide
  clear d3 d3' b3 bb3 HG x3
  rw [show (((1 : UInt8).toNat : Int)) = 1 from rfl] at HP
  go_wp2_with fail
  refine HP.out.mono ?_
  rintro e w4 ⟨rfl, d4, k4⟩
  have b4 : Below w1.heap.size w1 w4 := B3.out.trans k4.1
  have HR := hid_of (HWr.out w4 w1.heap.size w1.heap.size (FRow.bel BB.out b4 (Nat.le_refl _)) (by omega) b4.size d4)
  have B4 := hid_of b4
  clear d4 k4 b4 HP HWr c0
  go_wp2_with fail
  refine HR.out.mono ?_
  rintro e w5 ⟨rfl, d5, k5⟩
  have b5 : Below w1.heap.size w1 w5 := B4.out.trans k5.1
  have HT : Hid (Calls Tryz.prog 105 #[ptr w1.heap.size] w5 fun e w' => e = .returned (.string (mk full)) ∧ Below w1.heap.size w5 w') := hid_of (Tryz.Builder_String_any w1.heap.size w1.heap.size full w5 (Or.inr d5) b5.size)
  have B5 := hid_of b5
  clear d5 k5 b5 HR
  go_wp2_with fail
  refine HT.out.mono ?_
  rintro e w6 ⟨rfl, b6⟩
  have B6 := hid_of (B5.out.trans b6)
  clear b6 HT
  go_wp2_with fail
  go_ret2
  exact ⟨rfl, FRow.bel BB.out B6.out (Nat.le_refl _)⟩

set_option maxHeartbeats 4000000 in
set_option maxRecDepth 100000 in
theorem eraw2 (X : ByteArray) (aa ba ca : Option Addr) (an bn cn ac bc cc : Nat) (N : Nat) (full : Bs) (w : World) (hN : N + 1 ≤ 140737488355328)
    (HCk : Hid (∀ W, Below w.heap.size w W → Calls Tryz.prog 20 #[.agg #[.int .i64 2, .string X, .slice aa an ac, .slice ba bn bc, .slice ca cn cc]] W fun e w' => e = .returned (.tuple #[.iface 107 (.slice aa an ac), .int .i64 0]) ∧ Below W.heap.size W w'))
    (HWt : Hid (∀ W, Below w.heap.size w W → Calls Tryz.prog 229 #[.slice aa an ac] W fun e w' => e = .returned (.int .i64 (N : Int)) ∧ Below W.heap.size W w'))
    (HWr : Hid (∀ W B b, Below w.heap.size w W → w.heap.size ≤ B → B ≤ W.heap.size → BA B b [2] W → Calls Tryz.prog 230 #[.slice aa an ac, ptr b] W fun e w' => e = .returned (.tuple #[]) ∧ BA B b full w' ∧ Kp B b W w')) :
    Calls Tryz.prog 75 #[.agg #[.int .i64 2, .string X, .slice aa an ac, .slice ba bn bc, .slice ca cn cc]] w fun e w' => e = .returned (.tuple #[.string (mk full), .int .i64 0]) ∧ Below w.heap.size w w' := by
  obtain ⟨V, hV⟩ : ∃ V, V = w.alloc (.cells #[.int .i64 2, .string X, .slice aa an ac, .slice ba bn bc, .slice ca cn cc] 30) := ⟨_, rfl⟩
  have bV : Below w.heap.size w V := by rw [hV]; exact FRow.bnew w _
  have sV : V.heap.size = w.heap.size + 1 := by rw [hV]; simp
  have v0 : V.heap[w.heap.size]? = some (.cells #[.int .i64 2, .string X, .slice aa an ac, .slice ba bn bc, .slice ca cn cc] 30 (0, 0)) := by rw [hV]; exact heap_alloc_new w _
  have HV := hid_of hV
  have HB := hid_of bV
  have HX := hid_of fun (W : World) (hW : Below V.heap.size V W) => (hW.block _ (lt_of v0)).trans v0
  have HS := hid_of sV
  clear v0 bV hV sV
  go_enter Tryz.func75, Tryz.ntmps75
  go_wp2_with fail
  rw [← HV.out]
  refine (HCk.out V HB.out).mono ?_
  rintro e w1 ⟨rfl, b1⟩
  have B1 := hid_of b1
  have BB := hid_of (FRow.bel HB.out b1 (Nat.le_refl _))
  have hsz : w.heap.size + 1 ≤ w1.heap.size := by have := b1.size; have := HS.out; omega
  clear b1 HCk
  obtain ⟨W, hW⟩ : ∃ W, W = w1.alloc (.cells #[.pointer none, .slice none 0 0] 164) := ⟨_, rfl⟩
  have bW : Below w1.heap.size w1 W := by rw [hW]; exact FRow.bnew w1 _
  have w0 : W.heap[w1.heap.size]? = some (.cells #[.pointer none, .slice none 0 0] 164 (0, 0)) := by rw [hW]; exact heap_alloc_new w1 _
  have HW := hid_of hW
  have BW := hid_of bW
  have HW0 := hid_of w0
  clear bW w0 hW
  go_wp2_with fail
  rw [← HW.out]
  refine (HWt.out W (FRow.bel BB.out BW.out (Nat.le_refl _))).mono ?_
  rintro e w2 ⟨rfl, b2⟩
  have HG := hid_of (Tryz.Builder_Grow_fresh w1.heap.size w1.heap.size (N + 1) w2 (Nat.le_refl _) ((b2.block _ (lt_of HW0.out)).trans HW0.out) (Nat.le_trans BW.out.size b2.size) (by omega))
  have B2 := hid_of (FRow.bel BW.out b2 (Nat.le_refl _))
  have n1 : IntKind.i64.wrap (1 + (N : Int)) = ((N + 1 : Nat) : Int) := by rw [show ((N + 1 : Nat) : Int) = 1 + (N : Int) by omega]; exact IntWalk.i64_in _ (by omega)
  obtain ⟨M, hM⟩ : ∃ M, M = N + 1 := ⟨_, rfl⟩
  rw [← hM] at HG n1
  clear b2 HWt hM
  go_wp2_with fail
  refine HG.out.mono ?_
  rintro e w3 ⟨rfl, d3, b3⟩
  have d3' : BA w1.heap.size w1.heap.size [] w3 := d3
  have bb3 : Below w1.heap.size w1 w3 := B2.out.trans b3
  have x3 := HX.out w3 (FRow.bel B1.out bb3 (Nat.le_refl _))
  obtain ⟨⟨c0, _, _, _, _⟩, _⟩ := box5 x3
  have HP := hid_of (byte_call w1.heap.size w1.heap.size [] 2 w3 d3' (by decide) (Nat.le_trans B2.out.size b3.size))
  have B3 := hid_of bb3
  have u8 : IntKind.u8.wrap (2 : Int) = 2 := by decide
  clear d3 d3' b3 bb3 HG x3
  rw [show (((2 : UInt8).toNat : Int)) = 2 from rfl] at HP
  go_wp2_with fail
  refine HP.out.mono ?_
  rintro e w4 ⟨rfl, d4, k4⟩
  have b4 : Below w1.heap.size w1 w4 := B3.out.trans k4.1
  have HR := hid_of (HWr.out w4 w1.heap.size w1.heap.size (FRow.bel BB.out b4 (Nat.le_refl _)) (by omega) b4.size d4)
  have B4 := hid_of b4
  clear d4 k4 b4 HP HWr c0
  go_wp2_with fail
  refine HR.out.mono ?_
  rintro e w5 ⟨rfl, d5, k5⟩
  have b5 : Below w1.heap.size w1 w5 := B4.out.trans k5.1
  have HT : Hid (Calls Tryz.prog 105 #[ptr w1.heap.size] w5 fun e w' => e = .returned (.string (mk full)) ∧ Below w1.heap.size w5 w') := hid_of (Tryz.Builder_String_any w1.heap.size w1.heap.size full w5 (Or.inr d5) b5.size)
  have B5 := hid_of b5
  clear d5 k5 b5 HR
  go_wp2_with fail
  refine HT.out.mono ?_
  rintro e w6 ⟨rfl, b6⟩
  have B6 := hid_of (B5.out.trans b6)
  clear b6 HT
  go_wp2_with fail
  go_ret2
  exact ⟨rfl, FRow.bel BB.out B6.out (Nat.le_refl _)⟩

set_option maxHeartbeats 4000000 in
set_option maxRecDepth 100000 in
theorem eraw3 (X : ByteArray) (aa ba ca : Option Addr) (an bn cn ac bc cc : Nat) (N : Nat) (full : Bs) (w : World) (hN : N + 1 ≤ 140737488355328)
    (HCk : Hid (∀ W, Below w.heap.size w W → Calls Tryz.prog 20 #[.agg #[.int .i64 3, .string X, .slice aa an ac, .slice ba bn bc, .slice ca cn cc]] W fun e w' => e = .returned (.tuple #[.iface 108 (.slice ba bn bc), .int .i64 0]) ∧ Below W.heap.size W w'))
    (HWt : Hid (∀ W, Below w.heap.size w W → Calls Tryz.prog 232 #[.slice ba bn bc] W fun e w' => e = .returned (.int .i64 (N : Int)) ∧ Below W.heap.size W w'))
    (HWr : Hid (∀ W B b, Below w.heap.size w W → w.heap.size ≤ B → B ≤ W.heap.size → BA B b [3] W → Calls Tryz.prog 233 #[.slice ba bn bc, ptr b] W fun e w' => e = .returned (.tuple #[]) ∧ BA B b full w' ∧ Kp B b W w')) :
    Calls Tryz.prog 75 #[.agg #[.int .i64 3, .string X, .slice aa an ac, .slice ba bn bc, .slice ca cn cc]] w fun e w' => e = .returned (.tuple #[.string (mk full), .int .i64 0]) ∧ Below w.heap.size w w' := by
  obtain ⟨V, hV⟩ : ∃ V, V = w.alloc (.cells #[.int .i64 3, .string X, .slice aa an ac, .slice ba bn bc, .slice ca cn cc] 30) := ⟨_, rfl⟩
  have bV : Below w.heap.size w V := by rw [hV]; exact FRow.bnew w _
  have sV : V.heap.size = w.heap.size + 1 := by rw [hV]; simp
  have v0 : V.heap[w.heap.size]? = some (.cells #[.int .i64 3, .string X, .slice aa an ac, .slice ba bn bc, .slice ca cn cc] 30 (0, 0)) := by rw [hV]; exact heap_alloc_new w _
  have HV := hid_of hV
  have HB := hid_of bV
  have HX := hid_of fun (W : World) (hW : Below V.heap.size V W) => (hW.block _ (lt_of v0)).trans v0
  have HS := hid_of sV
  clear v0 bV hV sV
  go_enter Tryz.func75, Tryz.ntmps75
  go_wp2_with fail
  rw [← HV.out]
  refine (HCk.out V HB.out).mono ?_
  rintro e w1 ⟨rfl, b1⟩
  have B1 := hid_of b1
  have BB := hid_of (FRow.bel HB.out b1 (Nat.le_refl _))
  have hsz : w.heap.size + 1 ≤ w1.heap.size := by have := b1.size; have := HS.out; omega
  clear b1 HCk
  obtain ⟨W, hW⟩ : ∃ W, W = w1.alloc (.cells #[.pointer none, .slice none 0 0] 164) := ⟨_, rfl⟩
  have bW : Below w1.heap.size w1 W := by rw [hW]; exact FRow.bnew w1 _
  have w0 : W.heap[w1.heap.size]? = some (.cells #[.pointer none, .slice none 0 0] 164 (0, 0)) := by rw [hW]; exact heap_alloc_new w1 _
  have HW := hid_of hW
  have BW := hid_of bW
  have HW0 := hid_of w0
  clear bW w0 hW
  go_wp2_with fail
  rw [← HW.out]
  refine (HWt.out W (FRow.bel BB.out BW.out (Nat.le_refl _))).mono ?_
  rintro e w2 ⟨rfl, b2⟩
  have HG := hid_of (Tryz.Builder_Grow_fresh w1.heap.size w1.heap.size (N + 1) w2 (Nat.le_refl _) ((b2.block _ (lt_of HW0.out)).trans HW0.out) (Nat.le_trans BW.out.size b2.size) (by omega))
  have B2 := hid_of (FRow.bel BW.out b2 (Nat.le_refl _))
  have n1 : IntKind.i64.wrap (1 + (N : Int)) = ((N + 1 : Nat) : Int) := by rw [show ((N + 1 : Nat) : Int) = 1 + (N : Int) by omega]; exact IntWalk.i64_in _ (by omega)
  obtain ⟨M, hM⟩ : ∃ M, M = N + 1 := ⟨_, rfl⟩
  rw [← hM] at HG n1
  clear b2 HWt hM
  go_wp2_with fail
  refine HG.out.mono ?_
  rintro e w3 ⟨rfl, d3, b3⟩
  have d3' : BA w1.heap.size w1.heap.size [] w3 := d3
  have bb3 : Below w1.heap.size w1 w3 := B2.out.trans b3
  have x3 := HX.out w3 (FRow.bel B1.out bb3 (Nat.le_refl _))
  obtain ⟨⟨c0, _, _, _, _⟩, _⟩ := box5 x3
  have HP := hid_of (byte_call w1.heap.size w1.heap.size [] 3 w3 d3' (by decide) (Nat.le_trans B2.out.size b3.size))
  have B3 := hid_of bb3
  have u8 : IntKind.u8.wrap (3 : Int) = 3 := by decide
  clear d3 d3' b3 bb3 HG x3
  rw [show (((3 : UInt8).toNat : Int)) = 3 from rfl] at HP
  go_wp2_with fail
  refine HP.out.mono ?_
  rintro e w4 ⟨rfl, d4, k4⟩
  have b4 : Below w1.heap.size w1 w4 := B3.out.trans k4.1
  have HR := hid_of (HWr.out w4 w1.heap.size w1.heap.size (FRow.bel BB.out b4 (Nat.le_refl _)) (by omega) b4.size d4)
  have B4 := hid_of b4
  clear d4 k4 b4 HP HWr c0
  go_wp2_with fail
  refine HR.out.mono ?_
  rintro e w5 ⟨rfl, d5, k5⟩
  have b5 : Below w1.heap.size w1 w5 := B4.out.trans k5.1
  have HT : Hid (Calls Tryz.prog 105 #[ptr w1.heap.size] w5 fun e w' => e = .returned (.string (mk full)) ∧ Below w1.heap.size w5 w') := hid_of (Tryz.Builder_String_any w1.heap.size w1.heap.size full w5 (Or.inr d5) b5.size)
  have B5 := hid_of b5
  clear d5 k5 b5 HR
  go_wp2_with fail
  refine HT.out.mono ?_
  rintro e w6 ⟨rfl, b6⟩
  have B6 := hid_of (B5.out.trans b6)
  clear b6 HT
  go_wp2_with fail
  go_ret2
  exact ⟨rfl, FRow.bel BB.out B6.out (Nat.le_refl _)⟩

set_option maxHeartbeats 4000000 in
set_option maxRecDepth 100000 in
theorem eraw4 (X : ByteArray) (aa ba ca : Option Addr) (an bn cn ac bc cc : Nat) (N : Nat) (full : Bs) (w : World) (hN : N + 1 ≤ 140737488355328)
    (HCk : Hid (∀ W, Below w.heap.size w W → Calls Tryz.prog 20 #[.agg #[.int .i64 4, .string X, .slice aa an ac, .slice ba bn bc, .slice ca cn cc]] W fun e w' => e = .returned (.tuple #[.iface 109 (.slice aa an ac), .int .i64 0]) ∧ Below W.heap.size W w'))
    (HWt : Hid (∀ W, Below w.heap.size w W → Calls Tryz.prog 236 #[.slice aa an ac] W fun e w' => e = .returned (.int .i64 (N : Int)) ∧ Below W.heap.size W w'))
    (HWr : Hid (∀ W B b, Below w.heap.size w W → w.heap.size ≤ B → B ≤ W.heap.size → BA B b [4] W → Calls Tryz.prog 237 #[.slice aa an ac, ptr b] W fun e w' => e = .returned (.tuple #[]) ∧ BA B b full w' ∧ Kp B b W w')) :
    Calls Tryz.prog 75 #[.agg #[.int .i64 4, .string X, .slice aa an ac, .slice ba bn bc, .slice ca cn cc]] w fun e w' => e = .returned (.tuple #[.string (mk full), .int .i64 0]) ∧ Below w.heap.size w w' := by
  obtain ⟨V, hV⟩ : ∃ V, V = w.alloc (.cells #[.int .i64 4, .string X, .slice aa an ac, .slice ba bn bc, .slice ca cn cc] 30) := ⟨_, rfl⟩
  have bV : Below w.heap.size w V := by rw [hV]; exact FRow.bnew w _
  have sV : V.heap.size = w.heap.size + 1 := by rw [hV]; simp
  have v0 : V.heap[w.heap.size]? = some (.cells #[.int .i64 4, .string X, .slice aa an ac, .slice ba bn bc, .slice ca cn cc] 30 (0, 0)) := by rw [hV]; exact heap_alloc_new w _
  have HV := hid_of hV
  have HB := hid_of bV
  have HX := hid_of fun (W : World) (hW : Below V.heap.size V W) => (hW.block _ (lt_of v0)).trans v0
  have HS := hid_of sV
  clear v0 bV hV sV
  go_enter Tryz.func75, Tryz.ntmps75
  go_wp2_with fail
  rw [← HV.out]
  refine (HCk.out V HB.out).mono ?_
  rintro e w1 ⟨rfl, b1⟩
  have B1 := hid_of b1
  have BB := hid_of (FRow.bel HB.out b1 (Nat.le_refl _))
  have hsz : w.heap.size + 1 ≤ w1.heap.size := by have := b1.size; have := HS.out; omega
  clear b1 HCk
  obtain ⟨W, hW⟩ : ∃ W, W = w1.alloc (.cells #[.pointer none, .slice none 0 0] 164) := ⟨_, rfl⟩
  have bW : Below w1.heap.size w1 W := by rw [hW]; exact FRow.bnew w1 _
  have w0 : W.heap[w1.heap.size]? = some (.cells #[.pointer none, .slice none 0 0] 164 (0, 0)) := by rw [hW]; exact heap_alloc_new w1 _
  have HW := hid_of hW
  have BW := hid_of bW
  have HW0 := hid_of w0
  clear bW w0 hW
  go_wp2_with fail
  rw [← HW.out]
  refine (HWt.out W (FRow.bel BB.out BW.out (Nat.le_refl _))).mono ?_
  rintro e w2 ⟨rfl, b2⟩
  have HG := hid_of (Tryz.Builder_Grow_fresh w1.heap.size w1.heap.size (N + 1) w2 (Nat.le_refl _) ((b2.block _ (lt_of HW0.out)).trans HW0.out) (Nat.le_trans BW.out.size b2.size) (by omega))
  have B2 := hid_of (FRow.bel BW.out b2 (Nat.le_refl _))
  have n1 : IntKind.i64.wrap (1 + (N : Int)) = ((N + 1 : Nat) : Int) := by rw [show ((N + 1 : Nat) : Int) = 1 + (N : Int) by omega]; exact IntWalk.i64_in _ (by omega)
  obtain ⟨M, hM⟩ : ∃ M, M = N + 1 := ⟨_, rfl⟩
  rw [← hM] at HG n1
  clear b2 HWt hM
  go_wp2_with fail
  refine HG.out.mono ?_
  rintro e w3 ⟨rfl, d3, b3⟩
  have d3' : BA w1.heap.size w1.heap.size [] w3 := d3
  have bb3 : Below w1.heap.size w1 w3 := B2.out.trans b3
  have x3 := HX.out w3 (FRow.bel B1.out bb3 (Nat.le_refl _))
  obtain ⟨⟨c0, _, _, _, _⟩, _⟩ := box5 x3
  have HP := hid_of (byte_call w1.heap.size w1.heap.size [] 4 w3 d3' (by decide) (Nat.le_trans B2.out.size b3.size))
  have B3 := hid_of bb3
  have u8 : IntKind.u8.wrap (4 : Int) = 4 := by decide
  clear d3 d3' b3 bb3 HG x3
  rw [show (((4 : UInt8).toNat : Int)) = 4 from rfl] at HP
  go_wp2_with fail
  refine HP.out.mono ?_
  rintro e w4 ⟨rfl, d4, k4⟩
  have b4 : Below w1.heap.size w1 w4 := B3.out.trans k4.1
  have HR := hid_of (HWr.out w4 w1.heap.size w1.heap.size (FRow.bel BB.out b4 (Nat.le_refl _)) (by omega) b4.size d4)
  have B4 := hid_of b4
  clear d4 k4 b4 HP HWr c0
  go_wp2_with fail
  refine HR.out.mono ?_
  rintro e w5 ⟨rfl, d5, k5⟩
  have b5 : Below w1.heap.size w1 w5 := B4.out.trans k5.1
  have HT : Hid (Calls Tryz.prog 105 #[ptr w1.heap.size] w5 fun e w' => e = .returned (.string (mk full)) ∧ Below w1.heap.size w5 w') := hid_of (Tryz.Builder_String_any w1.heap.size w1.heap.size full w5 (Or.inr d5) b5.size)
  have B5 := hid_of b5
  clear d5 k5 b5 HR
  go_wp2_with fail
  refine HT.out.mono ?_
  rintro e w6 ⟨rfl, b6⟩
  have B6 := hid_of (B5.out.trans b6)
  clear b6 HT
  go_wp2_with fail
  go_ret2
  exact ⟨rfl, FRow.bel BB.out B6.out (Nat.le_refl _)⟩

set_option maxHeartbeats 4000000 in
set_option maxRecDepth 100000 in
theorem eraw5 (X : ByteArray) (aa ba ca : Option Addr) (an bn cn ac bc cc : Nat) (N : Nat) (full : Bs) (w : World) (hN : N + 1 ≤ 140737488355328)
    (HCk : Hid (∀ W, Below w.heap.size w W → Calls Tryz.prog 20 #[.agg #[.int .i64 5, .string X, .slice aa an ac, .slice ba bn bc, .slice ca cn cc]] W fun e w' => e = .returned (.tuple #[.iface 110 (.slice ca cn cc), .int .i64 0]) ∧ Below W.heap.size W w'))
    (HWt : Hid (∀ W, Below w.heap.size w W → Calls Tryz.prog 239 #[.slice ca cn cc] W fun e w' => e = .returned (.int .i64 (N : Int)) ∧ Below W.heap.size W w'))
    (HWr : Hid (∀ W B b, Below w.heap.size w W → w.heap.size ≤ B → B ≤ W.heap.size → BA B b [5] W → Calls Tryz.prog 240 #[.slice ca cn cc, ptr b] W fun e w' => e = .returned (.tuple #[]) ∧ BA B b full w' ∧ Kp B b W w')) :
    Calls Tryz.prog 75 #[.agg #[.int .i64 5, .string X, .slice aa an ac, .slice ba bn bc, .slice ca cn cc]] w fun e w' => e = .returned (.tuple #[.string (mk full), .int .i64 0]) ∧ Below w.heap.size w w' := by
  obtain ⟨V, hV⟩ : ∃ V, V = w.alloc (.cells #[.int .i64 5, .string X, .slice aa an ac, .slice ba bn bc, .slice ca cn cc] 30) := ⟨_, rfl⟩
  have bV : Below w.heap.size w V := by rw [hV]; exact FRow.bnew w _
  have sV : V.heap.size = w.heap.size + 1 := by rw [hV]; simp
  have v0 : V.heap[w.heap.size]? = some (.cells #[.int .i64 5, .string X, .slice aa an ac, .slice ba bn bc, .slice ca cn cc] 30 (0, 0)) := by rw [hV]; exact heap_alloc_new w _
  have HV := hid_of hV
  have HB := hid_of bV
  have HX := hid_of fun (W : World) (hW : Below V.heap.size V W) => (hW.block _ (lt_of v0)).trans v0
  have HS := hid_of sV
  clear v0 bV hV sV
  go_enter Tryz.func75, Tryz.ntmps75
  go_wp2_with fail
  rw [← HV.out]
  refine (HCk.out V HB.out).mono ?_
  rintro e w1 ⟨rfl, b1⟩
  have B1 := hid_of b1
  have BB := hid_of (FRow.bel HB.out b1 (Nat.le_refl _))
  have hsz : w.heap.size + 1 ≤ w1.heap.size := by have := b1.size; have := HS.out; omega
  clear b1 HCk
  obtain ⟨W, hW⟩ : ∃ W, W = w1.alloc (.cells #[.pointer none, .slice none 0 0] 164) := ⟨_, rfl⟩
  have bW : Below w1.heap.size w1 W := by rw [hW]; exact FRow.bnew w1 _
  have w0 : W.heap[w1.heap.size]? = some (.cells #[.pointer none, .slice none 0 0] 164 (0, 0)) := by rw [hW]; exact heap_alloc_new w1 _
  have HW := hid_of hW
  have BW := hid_of bW
  have HW0 := hid_of w0
  clear bW w0 hW
  go_wp2_with fail
  rw [← HW.out]
  refine (HWt.out W (FRow.bel BB.out BW.out (Nat.le_refl _))).mono ?_
  rintro e w2 ⟨rfl, b2⟩
  have HG := hid_of (Tryz.Builder_Grow_fresh w1.heap.size w1.heap.size (N + 1) w2 (Nat.le_refl _) ((b2.block _ (lt_of HW0.out)).trans HW0.out) (Nat.le_trans BW.out.size b2.size) (by omega))
  have B2 := hid_of (FRow.bel BW.out b2 (Nat.le_refl _))
  have n1 : IntKind.i64.wrap (1 + (N : Int)) = ((N + 1 : Nat) : Int) := by rw [show ((N + 1 : Nat) : Int) = 1 + (N : Int) by omega]; exact IntWalk.i64_in _ (by omega)
  obtain ⟨M, hM⟩ : ∃ M, M = N + 1 := ⟨_, rfl⟩
  rw [← hM] at HG n1
  clear b2 HWt hM
  go_wp2_with fail
  refine HG.out.mono ?_
  rintro e w3 ⟨rfl, d3, b3⟩
  have d3' : BA w1.heap.size w1.heap.size [] w3 := d3
  have bb3 : Below w1.heap.size w1 w3 := B2.out.trans b3
  have x3 := HX.out w3 (FRow.bel B1.out bb3 (Nat.le_refl _))
  obtain ⟨⟨c0, _, _, _, _⟩, _⟩ := box5 x3
  have HP := hid_of (byte_call w1.heap.size w1.heap.size [] 5 w3 d3' (by decide) (Nat.le_trans B2.out.size b3.size))
  have B3 := hid_of bb3
  have u8 : IntKind.u8.wrap (5 : Int) = 5 := by decide
  clear d3 d3' b3 bb3 HG x3
  rw [show (((5 : UInt8).toNat : Int)) = 5 from rfl] at HP
  go_wp2_with fail
  refine HP.out.mono ?_
  rintro e w4 ⟨rfl, d4, k4⟩
  have b4 : Below w1.heap.size w1 w4 := B3.out.trans k4.1
  have HR := hid_of (HWr.out w4 w1.heap.size w1.heap.size (FRow.bel BB.out b4 (Nat.le_refl _)) (by omega) b4.size d4)
  have B4 := hid_of b4
  clear d4 k4 b4 HP HWr c0
  go_wp2_with fail
  refine HR.out.mono ?_
  rintro e w5 ⟨rfl, d5, k5⟩
  have b5 : Below w1.heap.size w1 w5 := B4.out.trans k5.1
  have HT : Hid (Calls Tryz.prog 105 #[ptr w1.heap.size] w5 fun e w' => e = .returned (.string (mk full)) ∧ Below w1.heap.size w5 w') := hid_of (Tryz.Builder_String_any w1.heap.size w1.heap.size full w5 (Or.inr d5) b5.size)
  have B5 := hid_of b5
  clear d5 k5 b5 HR
  go_wp2_with fail
  refine HT.out.mono ?_
  rintro e w6 ⟨rfl, b6⟩
  have B6 := hid_of (B5.out.trans b6)
  clear b6 HT
  go_wp2_with fail
  go_ret2
  exact ⟨rfl, FRow.bel BB.out B6.out (Nat.le_refl _)⟩

set_option maxHeartbeats 4000000 in
set_option maxRecDepth 100000 in
theorem eraw0 (k : Int) (X : ByteArray) (aa ba ca : Option Addr) (an bn cn ac bc cc : Nat) (E : Int) (hE : E ≠ 0) (w : World)
    (HCk : Hid (∀ W, Below w.heap.size w W → Calls Tryz.prog 20 #[.agg #[.int .i64 k, .string X, .slice aa an ac, .slice ba bn bc, .slice ca cn cc]] W fun e w' => e = .returned (.tuple #[.nilIface, .int .i64 E]) ∧ Below W.heap.size W w')) :
    Calls Tryz.prog 75 #[.agg #[.int .i64 k, .string X, .slice aa an ac, .slice ba bn bc, .slice ca cn cc]] w fun e w' => e = .returned (.tuple #[.string ⟨#[]⟩, .int .i64 E]) ∧ Below w.heap.size w w' := by
  obtain ⟨V, hV⟩ : ∃ V, V = w.alloc (.cells #[.int .i64 k, .string X, .slice aa an ac, .slice ba bn bc, .slice ca cn cc] 30) := ⟨_, rfl⟩
  have bV : Below w.heap.size w V := by rw [hV]; exact FRow.bnew w _
  have HV := hid_of hV
  have HB := hid_of bV
  have e1 : (E != 0) = true := by simpa using hE
  clear bV hV hE
  go_enter Tryz.func75, Tryz.ntmps75
  go_wp2_with fail
  rw [← HV.out]
  refine (HCk.out V HB.out).mono ?_
  rintro e w1 ⟨rfl, b1⟩
  have BB := hid_of (FRow.bel HB.out b1 (Nat.le_refl _))
  clear b1 HCk
  go_wp2_with fail
  go_ret2
  exact ⟨rfl, BB.out⟩

end Go.Proofs.YtminfpkigenahaaGreatDoor.Enc0
end
section
namespace Go.Proofs.YtminfpkigenahaaGreatDoor.Enc
open Go.RowKit Go.Maps
open Go.Proofs.YtminfpkigenahaaGreatDoor.SetMath
open Go.Proofs.YtminfpkigenahaaGreatDoor.BytesMath
open Go.Proofs.YtminfpkigenahaaGreatDoor.FixMath
open Go.Proofs.YtminfpkigenahaaGreatDoor.ValueMath
open Go.Proofs.YtminfpkigenahaaGreatDoor.Base
open Go.Proofs.YtminfpkigenahaaGreatDoor.Vals
open Go.Proofs.YtminfpkigenahaaGreatDoor.Builder (Kp)
open Go.Proofs.YtminfpkigenahaaGreatDoor.Write
open Go.Proofs.YtminfpkigenahaaGreatDoor.Write2
open Go.Proofs.YtminfpkigenahaaGreatDoor.Enc0
open Go.Proofs.YtminfpkigenahaaGreatDoor.Check0
open Go.Proofs.YtminfpkigenahaaGreatDoor.Check
set_option linter.unusedVariables false
set_option linter.unusedSimpArgs false

def encV (x : Vl) : Bs := if chk x = 0 then enc x else []
theorem sl_B {w W : World} {v : Value} {l : List El} (h : SL TT w v l) (hW : Below w.heap.size w W) {B : Nat} (hB : w.heap.size ≤ B) : SL (fun k => k < B) W v l := by
  obtain ⟨a, c, rfl, hc, hr⟩ := h
  have h2 : SL (fun k => k < w.heap.size) w (.slice a l.length c) l := ⟨a, c, rfl, hc, hr.lt.mono fun k hk _ => hk⟩
  exact (h2.below hW).mono fun k _ hk => Nat.lt_of_lt_of_le hk hB
theorem fs_B {w W : World} {v : Value} {l : FL} (h : FRow.FS w v l) {B : Nat} (hW : Below w.heap.size w W) (hB : w.heap.size ≤ B) (U : World) (hU : Below B W U) : FRow.FS U v l := h.below (hW.trans (hU.mono hB))
theorem es_B {w W : World} {v : Value} {l : EL} (h : ERow.FS w v l) {B : Nat} (hW : Below w.heap.size w W) (hB : w.heap.size ≤ B) (U : World) (hU : Below B W U) : ERow.FS U v l := h.below (hW.trans (hU.mono hB))
theorem set_l {l : List Bs} (h : setOk l = true) : lOk l = true := by unfold setOk at h; rw [Bool.and_eq_true] at h; exact h.1
theorem encode_call {w : World} {v : Value} {x : Vl} (h : VA w v x) (hf : Wel x) (hs : small x) (hlen : (enc x).length ≤ 140737488355328) :
    Calls Tryz.prog 75 #[v] w fun e w' => e = .returned (.tuple #[.string (mk (encV x)), .int .i64 (chk x)]) ∧ Below w.heap.size w w' := by
  obtain ⟨a, b, c, rfl, h1, h2, h3⟩ := h
  have HC := fun (W : World) (hW : Below w.heap.size w W) => checked_call (h1.below hW) (h2.below hW) (h3.below hW) hf
  by_cases h0 : chk x = 0
  · have hE : encV x = enc x := by unfold encV; rw [if_pos h0]
    rw [hE]
    obtain ⟨k1, k2, hst, hm⟩ := chk_zero h0
    have hl := hf.l
    have hbl : (encB x).length + 1 ≤ 140737488355328 := by unfold enc at hlen; simpa using hlen
    simp only [ckC, h0, if_true] at HC
    rw [h0]
    obtain ⟨s1, s2, s3⟩ := hs
    unfold mayBe at hm
    rcases kind5 k1 k2 with q | q | q | q | q
    · rw [if_pos q] at hm
      have eB : encB x = encT x.text := by unfold encB; rw [if_pos q]
      have eE : enc x = [1] ++ encT x.text := by unfold enc; rw [eB, q]; rfl
      rw [eB] at hbl
      rw [eE]
      have HCk : Hid (∀ W, Below w.heap.size w W → Calls Tryz.prog 20 #[.agg #[.int .i64 1, .string (mk x.text), a, b, c]] W fun e w' => e = .returned (.tuple #[.iface 106 (.string (mk x.text)), .int .i64 0]) ∧ Below W.heap.size W w') := hid_of fun W hW => by
        have := HC W hW
        rw [q] at this
        exact this
      have HWt : Hid (∀ W, Below w.heap.size w W → Calls Tryz.prog 223 #[.string (mk x.text)] W fun e w' => e = .returned (.int .i64 ((encT x.text).length : Nat)) ∧ Below W.heap.size W w') := hid_of fun W hW => (twt_call x.text W hf.t).mono fun e w' ⟨p1, p2⟩ => ⟨p1, by rw [p2]; exact Below.refl _ _⟩
      have HWr : Hid (∀ W B b', Below w.heap.size w W → w.heap.size ≤ B → B ≤ W.heap.size → BA B b' [1] W → Calls Tryz.prog 224 #[.string (mk x.text), ptr b'] W fun e w' => e = .returned (.tuple #[]) ∧ BA B b' ([1] ++ encT x.text) w' ∧ Kp B b' W w') := hid_of fun W B b' hW hwB hBW hBA => twr_call B b' _ x.text W hBA (by have := of_decide_eq_true hm; omega) (by rw [encT_len] at hbl; simp; omega) hBW
      rw [q]
      obtain ⟨aa, ac, rfl, _, _⟩ := id h1
      obtain ⟨ba, bc, rfl, _, _⟩ := id h2
      obtain ⟨ca, cc, rfl, _, _⟩ := id h3
      exact eraw1 (mk x.text) aa ba ca _ _ _ ac bc cc (encT x.text).length ([1] ++ encT x.text) w hbl HCk HWt HWr
    · rw [if_neg (by omega), if_pos q] at hm
      have eB : encB x = encC encT x.list := by unfold encB; rw [if_neg (by omega), if_pos (by omega)]
      have eE : enc x = [2] ++ encC encT x.list := by unfold enc; rw [eB, q]; rfl
      rw [eB] at hbl
      rw [eE]
      have HCk : Hid (∀ W, Below w.heap.size w W → Calls Tryz.prog 20 #[.agg #[.int .i64 2, .string (mk x.text), a, b, c]] W fun e w' => e = .returned (.tuple #[.iface 107 (a), .int .i64 0]) ∧ Below W.heap.size W w') := hid_of fun W hW => by
        have := HC W hW
        rw [q] at this
        exact this
      have HWt : Hid (∀ W, Below w.heap.size w W → Calls Tryz.prog 229 #[a] W fun e w' => e = .returned (.int .i64 ((encC encT x.list).length : Nat)) ∧ Below W.heap.size W w') := hid_of fun W hW => (lwt_call x.list a W (h1.below hW) (by omega) (by omega)).mono fun e w' ⟨p1, p2⟩ => ⟨p1, by rw [p2]; exact Below.refl _ _⟩
      have HWr : Hid (∀ W B b', Below w.heap.size w W → w.heap.size ≤ B → B ≤ W.heap.size → BA B b' [2] W → Calls Tryz.prog 230 #[a, ptr b'] W fun e w' => e = .returned (.tuple #[]) ∧ BA B b' ([2] ++ encC encT x.list) w' ∧ Kp B b' W w') := hid_of fun W B b' hW hwB hBW hBA => lwr_call B b' _ x.list a W hBA (sl_B h1 hW hwB) s1 (fun t ht => by have := lOk_all hm t ht; omega) (by simp; omega) hBW
      rw [q]
      obtain ⟨aa, ac, rfl, _, _⟩ := id h1
      obtain ⟨ba, bc, rfl, _, _⟩ := id h2
      obtain ⟨ca, cc, rfl, _, _⟩ := id h3
      exact eraw2 (mk x.text) aa ba ca _ _ _ ac bc cc (encC encT x.list).length ([2] ++ encC encT x.list) w hbl HCk HWt HWr
    · rw [if_neg (by omega), if_neg (by omega), if_pos q] at hm
      have eB : encB x = encC encF x.fields := by unfold encB; rw [if_neg (by omega), if_neg (by omega), if_pos q]
      have eE : enc x = [3] ++ encC encF x.fields := by unfold enc; rw [eB, q]; rfl
      rw [eB] at hbl
      rw [eE]
      have HCk : Hid (∀ W, Below w.heap.size w W → Calls Tryz.prog 20 #[.agg #[.int .i64 3, .string (mk x.text), a, b, c]] W fun e w' => e = .returned (.tuple #[.iface 108 (b), .int .i64 0]) ∧ Below W.heap.size W w') := hid_of fun W hW => by
        have := HC W hW
        rw [q] at this
        exact this
      have HWt : Hid (∀ W, Below w.heap.size w W → Calls Tryz.prog 232 #[b] W fun e w' => e = .returned (.int .i64 ((encC encF x.fields).length : Nat)) ∧ Below W.heap.size W w') := hid_of fun W hW => hwt_call x.fields b W (h2.below hW) (by omega) (by omega)
      have HWr : Hid (∀ W B b', Below w.heap.size w W → w.heap.size ≤ B → B ≤ W.heap.size → BA B b' [3] W → Calls Tryz.prog 233 #[b, ptr b'] W fun e w' => e = .returned (.tuple #[]) ∧ BA B b' ([3] ++ encC encF x.fields) w' ∧ Kp B b' W w') := hid_of fun W B b' hW hwB hBW hBA => hwr_call B b' _ x.fields b W hBA (fs_B h2 hW hwB) s2 (hash_len hm) (by simp; omega) hBW
      rw [q]
      obtain ⟨aa, ac, rfl, _, _⟩ := id h1
      obtain ⟨ba, bc, rfl, _, _⟩ := id h2
      obtain ⟨ca, cc, rfl, _, _⟩ := id h3
      exact eraw3 (mk x.text) aa ba ca _ _ _ ac bc cc (encC encF x.fields).length ([3] ++ encC encF x.fields) w hbl HCk HWt HWr
    · rw [if_neg (by omega), if_neg (by omega), if_neg (by omega), if_pos q] at hm
      have eB : encB x = encC encT x.list := by unfold encB; rw [if_neg (by omega), if_pos (by omega)]
      have eE : enc x = [4] ++ encC encT x.list := by unfold enc; rw [eB, q]; rfl
      rw [eB] at hbl
      rw [eE]
      have HCk : Hid (∀ W, Below w.heap.size w W → Calls Tryz.prog 20 #[.agg #[.int .i64 4, .string (mk x.text), a, b, c]] W fun e w' => e = .returned (.tuple #[.iface 109 (a), .int .i64 0]) ∧ Below W.heap.size W w') := hid_of fun W hW => by
        have := HC W hW
        rw [q] at this
        exact this
      have HWt : Hid (∀ W, Below w.heap.size w W → Calls Tryz.prog 236 #[a] W fun e w' => e = .returned (.int .i64 ((encC encT x.list).length : Nat)) ∧ Below W.heap.size W w') := hid_of fun W hW => (swt_call x.list a W (h1.below hW) (by omega) (by omega)).mono fun e w' ⟨p1, p2⟩ => ⟨p1, by rw [p2]; exact Below.refl _ _⟩
      have HWr : Hid (∀ W B b', Below w.heap.size w W → w.heap.size ≤ B → B ≤ W.heap.size → BA B b' [4] W → Calls Tryz.prog 237 #[a, ptr b'] W fun e w' => e = .returned (.tuple #[]) ∧ BA B b' ([4] ++ encC encT x.list) w' ∧ Kp B b' W w') := hid_of fun W B b' hW hwB hBW hBA => swr_call B b' _ x.list a W hBA (sl_B h1 hW hwB) s1 (fun t ht => by have := lOk_all (set_l hm) t ht; omega) (by simp; omega) hBW
      rw [q]
      obtain ⟨aa, ac, rfl, _, _⟩ := id h1
      obtain ⟨ba, bc, rfl, _, _⟩ := id h2
      obtain ⟨ca, cc, rfl, _, _⟩ := id h3
      exact eraw4 (mk x.text) aa ba ca _ _ _ ac bc cc (encC encT x.list).length ([4] ++ encC encT x.list) w hbl HCk HWt HWr
    · rw [if_neg (by omega), if_neg (by omega), if_neg (by omega), if_neg (by omega)] at hm
      have eB : encB x = encC encE x.ranked := by unfold encB; rw [if_neg (by omega), if_neg (by omega), if_neg (by omega)]
      have eE : enc x = [5] ++ encC encE x.ranked := by unfold enc; rw [eB, q]; rfl
      rw [eB] at hbl
      rw [eE]
      have HCk : Hid (∀ W, Below w.heap.size w W → Calls Tryz.prog 20 #[.agg #[.int .i64 5, .string (mk x.text), a, b, c]] W fun e w' => e = .returned (.tuple #[.iface 110 (c), .int .i64 0]) ∧ Below W.heap.size W w') := hid_of fun W hW => by
        have := HC W hW
        rw [q] at this
        exact this
      have HWt : Hid (∀ W, Below w.heap.size w W → Calls Tryz.prog 239 #[c] W fun e w' => e = .returned (.int .i64 ((encC encE x.ranked).length : Nat)) ∧ Below W.heap.size W w') := hid_of fun W hW => rwt_call x.ranked c W (h3.below hW) (by omega) (by omega)
      have HWr : Hid (∀ W B b', Below w.heap.size w W → w.heap.size ≤ B → B ≤ W.heap.size → BA B b' [5] W → Calls Tryz.prog 240 #[c, ptr b'] W fun e w' => e = .returned (.tuple #[]) ∧ BA B b' ([5] ++ encC encE x.ranked) w' ∧ Kp B b' W w') := hid_of fun W B b' hW hwB hBW hBA => rwr_call B b' _ x.ranked c W hBA (es_B h3 hW hwB) s3 (fun t ht => (rank_len hm t ht).1) (by simp; omega) hBW
      rw [q]
      obtain ⟨aa, ac, rfl, _, _⟩ := id h1
      obtain ⟨ba, bc, rfl, _, _⟩ := id h2
      obtain ⟨ca, cc, rfl, _, _⟩ := id h3
      exact eraw5 (mk x.text) aa ba ca _ _ _ ac bc cc (encC encE x.ranked).length ([5] ++ encC encE x.ranked) w hbl HCk HWt HWr
  · have hE : encV x = [] := by unfold encV; rw [if_neg h0]
    rw [hE]
    have HCk : Hid (∀ W, Below w.heap.size w W → Calls Tryz.prog 20 #[.agg #[.int .i64 x.kind, .string (mk x.text), a, b, c]] W fun e w' => e = .returned (.tuple #[.nilIface, .int .i64 (chk x)]) ∧ Below W.heap.size W w') := hid_of fun W hW => by
      have := HC W hW
      unfold ckC at this
      rw [if_neg h0] at this
      exact this
    obtain ⟨aa, ac, rfl, _, _⟩ := id h1
    obtain ⟨ba, bc, rfl, _, _⟩ := id h2
    obtain ⟨ca, cc, rfl, _, _⟩ := id h3
    exact eraw0 x.kind (mk x.text) aa ba ca _ _ _ ac bc cc (chk x) h0 w HCk
end Go.Proofs.YtminfpkigenahaaGreatDoor.Enc
end
