/- Encode, Weight: the program's. -/
import Derived.Test.YtdcnkdkhanmklabWrite2
import Derived.Test.YtdcnkdkhanmklabCheck
namespace Go.Proofs.Ytdcnkdkhanmklab.Enc0
open Go.RowKit Go.Maps
open Go.Proofs.Ytdcnkdkhanmklab.SetMath
open Go.Proofs.Ytdcnkdkhanmklab.BytesMath
open Go.Proofs.Ytdcnkdkhanmklab.FixMath
open Go.Proofs.Ytdcnkdkhanmklab.ValueMath
open Go.Proofs.Ytdcnkdkhanmklab.Base
open Go.Proofs.Ytdcnkdkhanmklab.Vals
open Go.Proofs.Ytdcnkdkhanmklab.Builder (Kp)
open Go.Proofs.Ytdcnkdkhanmklab.Write
open Go.Proofs.Ytdcnkdkhanmklab.Write2
open Go.Proofs.Ytdcnkdkhanmklab.Check0
open Go.Proofs.Ytdcnkdkhanmklab.Check
set_option linter.unusedVariables false
set_option linter.unusedSimpArgs false

set_option maxHeartbeats 4000000 in
set_option maxRecDepth 100000 in
theorem eraw1 (X : ByteArray) (aa ba ca : Option Addr) (an bn cn ac bc cc : Nat) (N : Nat) (full : Bs) (w : World) (hN : N + 1 ≤ 140737488355328)
    (HCk : Hid (∀ W, Below w.heap.size w W → Calls Try.prog 17 #[.agg #[.int .i64 1, .string X, .slice aa an ac, .slice ba bn bc, .slice ca cn cc]] W fun e w' => e = .returned (.tuple #[.iface 74 (.string X), .int .i64 0]) ∧ Below W.heap.size W w'))
    (HWt : Hid (∀ W, Below w.heap.size w W → Calls Try.prog 57 #[.string X] W fun e w' => e = .returned (.int .i64 (N : Int)) ∧ Below W.heap.size W w'))
    (HWr : Hid (∀ W B b, Below w.heap.size w W → w.heap.size ≤ B → B ≤ W.heap.size → BA B b [1] W → Calls Try.prog 58 #[.string X, ptr b] W fun e w' => e = .returned (.tuple #[]) ∧ BA B b full w' ∧ Kp B b W w')) :
    Calls Try.prog 10 #[.agg #[.int .i64 1, .string X, .slice aa an ac, .slice ba bn bc, .slice ca cn cc]] w fun e w' => e = .returned (.tuple #[.string (mk full), .int .i64 0]) ∧ Below w.heap.size w w' := by
  obtain ⟨V, hV⟩ : ∃ V, V = w.alloc (.cells #[.int .i64 1, .string X, .slice aa an ac, .slice ba bn bc, .slice ca cn cc] 26) := ⟨_, rfl⟩
  have bV : Below w.heap.size w V := by rw [hV]; exact FRow.bnew w _
  have sV : V.heap.size = w.heap.size + 1 := by rw [hV]; simp
  have v0 : V.heap[w.heap.size]? = some (.cells #[.int .i64 1, .string X, .slice aa an ac, .slice ba bn bc, .slice ca cn cc] 26 (0, 0)) := by rw [hV]; exact heap_alloc_new w _
  have HV := hid_of hV
  have HB := hid_of bV
  have HX := hid_of fun (W : World) (hW : Below V.heap.size V W) => (hW.block _ (lt_of v0)).trans v0
  have HS := hid_of sV
  clear v0 bV hV sV
  go_enter Try.func10, Try.ntmps10
  go_wp2_with fail
  rw [← HV.out]
  refine (HCk.out V HB.out).mono ?_
  rintro e w1 ⟨rfl, b1⟩
  have B1 := hid_of b1
  have BB := hid_of (FRow.bel HB.out b1 (Nat.le_refl _))
  have hsz : w.heap.size + 1 ≤ w1.heap.size := by have := b1.size; have := HS.out; omega
  clear b1 HCk
  obtain ⟨W, hW⟩ : ∃ W, W = w1.alloc (.cells #[.pointer none, .slice none 0 0] 52) := ⟨_, rfl⟩
  have bW : Below w1.heap.size w1 W := by rw [hW]; exact FRow.bnew w1 _
  have w0 : W.heap[w1.heap.size]? = some (.cells #[.pointer none, .slice none 0 0] 52 (0, 0)) := by rw [hW]; exact heap_alloc_new w1 _
  have HW := hid_of hW
  have BW := hid_of bW
  have HW0 := hid_of w0
  clear bW w0 hW
  go_wp2_with fail
  rw [← HW.out]
  refine (HWt.out W (FRow.bel BB.out BW.out (Nat.le_refl _))).mono ?_
  rintro e w2 ⟨rfl, b2⟩
  have HG := hid_of (Try.Builder_Grow_fresh w1.heap.size w1.heap.size (N + 1) w2 (Nat.le_refl _) ((b2.block _ (lt_of HW0.out)).trans HW0.out) (Nat.le_trans BW.out.size b2.size) (by omega))
  have B2 := hid_of (FRow.bel BW.out b2 (Nat.le_refl _))
  have n1 : IntKind.i64.wrap (1 + (N : Int)) = ((N + 1 : Nat) : Int) := by rw [show ((N + 1 : Nat) : Int) = 1 + (N : Int) by omega]; exact IntWalk.i64_in _ (by omega)
  obtain ⟨M, hM⟩ : ∃ M, M = N + 1 := ⟨_, rfl⟩
  rw [← hM] at HG n1
  clear b2 HWt hM
  go_wp2_with fail
  refine HG.out.mono ?_
  rintro e w3 ⟨rfl, d3, b3⟩
  have d3' : BA w1.heap.size w1.heap.size [] w3 := d3
  have bb3 : Below w1.heap.size w1 w3 := B2.out.trans b3
  have x3 := HX.out w3 (FRow.bel B1.out bb3 (Nat.le_refl _))
  obtain ⟨⟨c0, _, _, _, _⟩, _⟩ := box5 x3
  have HP := hid_of (byte_call w1.heap.size w1.heap.size [] 1 w3 d3' (by decide) (Nat.le_trans B2.out.size b3.size))
  have B3 := hid_of bb3
  have u8 : IntKind.u8.wrap (1 : Int) = 1 := by decide
  clear d3 d3' b3 bb3 HG x3
  rw [show (((1 : UInt8).toNat : Int)) = 1 from rfl] at HP
  go_wp2_with fail
  refine HP.out.mono ?_
  rintro e w4 ⟨rfl, d4, k4⟩
  have b4 : Below w1.heap.size w1 w4 := B3.out.trans k4.1
  have HR := hid_of (HWr.out w4 w1.heap.size w1.heap.size (FRow.bel BB.out b4 (Nat.le_refl _)) (by omega) b4.size d4)
  have B4 := hid_of b4
  clear d4 k4 b4 HP HWr c0
  go_wp2_with fail
  refine HR.out.mono ?_
  rintro e w5 ⟨rfl, d5, k5⟩
  have b5 : Below w1.heap.size w1 w5 := B4.out.trans k5.1
  have HT : Hid (Calls Try.prog 20 #[ptr w1.heap.size] w5 fun e w' => e = .returned (.string (mk full)) ∧ Below w1.heap.size w5 w') := hid_of (Try.Builder_String_any w1.heap.size w1.heap.size full w5 (Or.inr d5) b5.size)
  have B5 := hid_of b5
  clear d5 k5 b5 HR
  go_wp2_with fail
  refine HT.out.mono ?_
  rintro e w6 ⟨rfl, b6⟩
  have B6 := hid_of (B5.out.trans b6)
  clear b6 HT
  go_wp2_with fail
  go_ret2
  exact ⟨rfl, FRow.bel BB.out B6.out (Nat.le_refl _)⟩

set_option maxHeartbeats 4000000 in
set_option maxRecDepth 100000 in
theorem eraw2 (X : ByteArray) (aa ba ca : Option Addr) (an bn cn ac bc cc : Nat) (N : Nat) (full : Bs) (w : World) (hN : N + 1 ≤ 140737488355328)
    (HCk : Hid (∀ W, Below w.heap.size w W → Calls Try.prog 17 #[.agg #[.int .i64 2, .string X, .slice aa an ac, .slice ba bn bc, .slice ca cn cc]] W fun e w' => e = .returned (.tuple #[.iface 75 (.slice aa an ac), .int .i64 0]) ∧ Below W.heap.size W w'))
    (HWt : Hid (∀ W, Below w.heap.size w W → Calls Try.prog 63 #[.slice aa an ac] W fun e w' => e = .returned (.int .i64 (N : Int)) ∧ Below W.heap.size W w'))
    (HWr : Hid (∀ W B b, Below w.heap.size w W → w.heap.size ≤ B → B ≤ W.heap.size → BA B b [2] W → Calls Try.prog 64 #[.slice aa an ac, ptr b] W fun e w' => e = .returned (.tuple #[]) ∧ BA B b full w' ∧ Kp B b W w')) :
    Calls Try.prog 10 #[.agg #[.int .i64 2, .string X, .slice aa an ac, .slice ba bn bc, .slice ca cn cc]] w fun e w' => e = .returned (.tuple #[.string (mk full), .int .i64 0]) ∧ Below w.heap.size w w' := by
  obtain ⟨V, hV⟩ : ∃ V, V = w.alloc (.cells #[.int .i64 2, .string X, .slice aa an ac, .slice ba bn bc, .slice ca cn cc] 26) := ⟨_, rfl⟩
  have bV : Below w.heap.size w V := by rw [hV]; exact FRow.bnew w _
  have sV : V.heap.size = w.heap.size + 1 := by rw [hV]; simp
  have v0 : V.heap[w.heap.size]? = some (.cells #[.int .i64 2, .string X, .slice aa an ac, .slice ba bn bc, .slice ca cn cc] 26 (0, 0)) := by rw [hV]; exact heap_alloc_new w _
  have HV := hid_of hV
  have HB := hid_of bV
  have HX := hid_of fun (W : World) (hW : Below V.heap.size V W) => (hW.block _ (lt_of v0)).trans v0
  have HS := hid_of sV
  clear v0 bV hV sV
  go_enter Try.func10, Try.ntmps10
  go_wp2_with fail
  rw [← HV.out]
  refine (HCk.out V HB.out).mono ?_
  rintro e w1 ⟨rfl, b1⟩
  have B1 := hid_of b1
  have BB := hid_of (FRow.bel HB.out b1 (Nat.le_refl _))
  have hsz : w.heap.size + 1 ≤ w1.heap.size := by have := b1.size; have := HS.out; omega
  clear b1 HCk
  obtain ⟨W, hW⟩ : ∃ W, W = w1.alloc (.cells #[.pointer none, .slice none 0 0] 52) := ⟨_, rfl⟩
  have bW : Below w1.heap.size w1 W := by rw [hW]; exact FRow.bnew w1 _
  have w0 : W.heap[w1.heap.size]? = some (.cells #[.pointer none, .slice none 0 0] 52 (0, 0)) := by rw [hW]; exact heap_alloc_new w1 _
  have HW := hid_of hW
  have BW := hid_of bW
  have HW0 := hid_of w0
  clear bW w0 hW
  go_wp2_with fail
  rw [← HW.out]
  refine (HWt.out W (FRow.bel BB.out BW.out (Nat.le_refl _))).mono ?_
  rintro e w2 ⟨rfl, b2⟩
  have HG := hid_of (Try.Builder_Grow_fresh w1.heap.size w1.heap.size (N + 1) w2 (Nat.le_refl _) ((b2.block _ (lt_of HW0.out)).trans HW0.out) (Nat.le_trans BW.out.size b2.size) (by omega))
  have B2 := hid_of (FRow.bel BW.out b2 (Nat.le_refl _))
  have n1 : IntKind.i64.wrap (1 + (N : Int)) = ((N + 1 : Nat) : Int) := by rw [show ((N + 1 : Nat) : Int) = 1 + (N : Int) by omega]; exact IntWalk.i64_in _ (by omega)
  obtain ⟨M, hM⟩ : ∃ M, M = N + 1 := ⟨_, rfl⟩
  rw [← hM] at HG n1
  clear b2 HWt hM
  go_wp2_with fail
  refine HG.out.mono ?_
  rintro e w3 ⟨rfl, d3, b3⟩
  have d3' : BA w1.heap.size w1.heap.size [] w3 := d3
  have bb3 : Below w1.heap.size w1 w3 := B2.out.trans b3
  have x3 := HX.out w3 (FRow.bel B1.out bb3 (Nat.le_refl _))
  obtain ⟨⟨c0, _, _, _, _⟩, _⟩ := box5 x3
  have HP := hid_of (byte_call w1.heap.size w1.heap.size [] 2 w3 d3' (by decide) (Nat.le_trans B2.out.size b3.size))
  have B3 := hid_of bb3
  have u8 : IntKind.u8.wrap (2 : Int) = 2 := by decide
  clear d3 d3' b3 bb3 HG x3
  rw [show (((2 : UInt8).toNat : Int)) = 2 from rfl] at HP
  go_wp2_with fail
  refine HP.out.mono ?_
  rintro e w4 ⟨rfl, d4, k4⟩
  have b4 : Below w1.heap.size w1 w4 := B3.out.trans k4.1
  have HR := hid_of (HWr.out w4 w1.heap.size w1.heap.size (FRow.bel BB.out b4 (Nat.le_refl _)) (by omega) b4.size d4)
  have B4 := hid_of b4
  clear d4 k4 b4 HP HWr c0
  go_wp2_with fail
  refine HR.out.mono ?_
  rintro e w5 ⟨rfl, d5, k5⟩
  have b5 : Below w1.heap.size w1 w5 := B4.out.trans k5.1
  have HT : Hid (Calls Try.prog 20 #[ptr w1.heap.size] w5 fun e w' => e = .returned (.string (mk full)) ∧ Below w1.heap.size w5 w') := hid_of (Try.Builder_String_any w1.heap.size w1.heap.size full w5 (Or.inr d5) b5.size)
  have B5 := hid_of b5
  clear d5 k5 b5 HR
  go_wp2_with fail
  refine HT.out.mono ?_
  rintro e w6 ⟨rfl, b6⟩
  have B6 := hid_of (B5.out.trans b6)
  clear b6 HT
  go_wp2_with fail
  go_ret2
  exact ⟨rfl, FRow.bel BB.out B6.out (Nat.le_refl _)⟩

set_option maxHeartbeats 4000000 in
set_option maxRecDepth 100000 in
theorem eraw3 (X : ByteArray) (aa ba ca : Option Addr) (an bn cn ac bc cc : Nat) (N : Nat) (full : Bs) (w : World) (hN : N + 1 ≤ 140737488355328)
    (HCk : Hid (∀ W, Below w.heap.size w W → Calls Try.prog 17 #[.agg #[.int .i64 3, .string X, .slice aa an ac, .slice ba bn bc, .slice ca cn cc]] W fun e w' => e = .returned (.tuple #[.iface 76 (.slice ba bn bc), .int .i64 0]) ∧ Below W.heap.size W w'))
    (HWt : Hid (∀ W, Below w.heap.size w W → Calls Try.prog 66 #[.slice ba bn bc] W fun e w' => e = .returned (.int .i64 (N : Int)) ∧ Below W.heap.size W w'))
    (HWr : Hid (∀ W B b, Below w.heap.size w W → w.heap.size ≤ B → B ≤ W.heap.size → BA B b [3] W → Calls Try.prog 67 #[.slice ba bn bc, ptr b] W fun e w' => e = .returned (.tuple #[]) ∧ BA B b full w' ∧ Kp B b W w')) :
    Calls Try.prog 10 #[.agg #[.int .i64 3, .string X, .slice aa an ac, .slice ba bn bc, .slice ca cn cc]] w fun e w' => e = .returned (.tuple #[.string (mk full), .int .i64 0]) ∧ Below w.heap.size w w' := by
  obtain ⟨V, hV⟩ : ∃ V, V = w.alloc (.cells #[.int .i64 3, .string X, .slice aa an ac, .slice ba bn bc, .slice ca cn cc] 26) := ⟨_, rfl⟩
  have bV : Below w.heap.size w V := by rw [hV]; exact FRow.bnew w _
  have sV : V.heap.size = w.heap.size + 1 := by rw [hV]; simp
  have v0 : V.heap[w.heap.size]? = some (.cells #[.int .i64 3, .string X, .slice aa an ac, .slice ba bn bc, .slice ca cn cc] 26 (0, 0)) := by rw [hV]; exact heap_alloc_new w _
  have HV := hid_of hV
  have HB := hid_of bV
  have HX := hid_of fun (W : World) (hW : Below V.heap.size V W) => (hW.block _ (lt_of v0)).trans v0
  have HS := hid_of sV
  clear v0 bV hV sV
  go_enter Try.func10, Try.ntmps10
  go_wp2_with fail
  rw [← HV.out]
  refine (HCk.out V HB.out).mono ?_
  rintro e w1 ⟨rfl, b1⟩
  have B1 := hid_of b1
  have BB := hid_of (FRow.bel HB.out b1 (Nat.le_refl _))
  have hsz : w.heap.size + 1 ≤ w1.heap.size := by have := b1.size; have := HS.out; omega
  clear b1 HCk
  obtain ⟨W, hW⟩ : ∃ W, W = w1.alloc (.cells #[.pointer none, .slice none 0 0] 52) := ⟨_, rfl⟩
  have bW : Below w1.heap.size w1 W := by rw [hW]; exact FRow.bnew w1 _
  have w0 : W.heap[w1.heap.size]? = some (.cells #[.pointer none, .slice none 0 0] 52 (0, 0)) := by rw [hW]; exact heap_alloc_new w1 _
  have HW := hid_of hW
  have BW := hid_of bW
  have HW0 := hid_of w0
  clear bW w0 hW
  go_wp2_with fail
  rw [← HW.out]
  refine (HWt.out W (FRow.bel BB.out BW.out (Nat.le_refl _))).mono ?_
  rintro e w2 ⟨rfl, b2⟩
  have HG := hid_of (Try.Builder_Grow_fresh w1.heap.size w1.heap.size (N + 1) w2 (Nat.le_refl _) ((b2.block _ (lt_of HW0.out)).trans HW0.out) (Nat.le_trans BW.out.size b2.size) (by omega))
  have B2 := hid_of (FRow.bel BW.out b2 (Nat.le_refl _))
  have n1 : IntKind.i64.wrap (1 + (N : Int)) = ((N + 1 : Nat) : Int) := by rw [show ((N + 1 : Nat) : Int) = 1 + (N : Int) by omega]; exact IntWalk.i64_in _ (by omega)
  obtain ⟨M, hM⟩ : ∃ M, M = N + 1 := ⟨_, rfl⟩
  rw [← hM] at HG n1
  clear b2 HWt hM
  go_wp2_with fail
  refine HG.out.mono ?_
  rintro e w3 ⟨rfl, d3, b3⟩
  have d3' : BA w1.heap.size w1.heap.size [] w3 := d3
  have bb3 : Below w1.heap.size w1 w3 := B2.out.trans b3
  have x3 := HX.out w3 (FRow.bel B1.out bb3 (Nat.le_refl _))
  obtain ⟨⟨c0, _, _, _, _⟩, _⟩ := box5 x3
  have HP := hid_of (byte_call w1.heap.size w1.heap.size [] 3 w3 d3' (by decide) (Nat.le_trans B2.out.size b3.size))
  have B3 := hid_of bb3
  have u8 : IntKind.u8.wrap (3 : Int) = 3 := by decide
  clear d3 d3' b3 bb3 HG x3
  rw [show (((3 : UInt8).toNat : Int)) = 3 from rfl] at HP
  go_wp2_with fail
  refine HP.out.mono ?_
  rintro e w4 ⟨rfl, d4, k4⟩
  have b4 : Below w1.heap.size w1 w4 := B3.out.trans k4.1
  have HR := hid_of (HWr.out w4 w1.heap.size w1.heap.size (FRow.bel BB.out b4 (Nat.le_refl _)) (by omega) b4.size d4)
  have B4 := hid_of b4
  clear d4 k4 b4 HP HWr c0
  go_wp2_with fail
  refine HR.out.mono ?_
  rintro e w5 ⟨rfl, d5, k5⟩
  have b5 : Below w1.heap.size w1 w5 := B4.out.trans k5.1
  have HT : Hid (Calls Try.prog 20 #[ptr w1.heap.size] w5 fun e w' => e = .returned (.string (mk full)) ∧ Below w1.heap.size w5 w') := hid_of (Try.Builder_String_any w1.heap.size w1.heap.size full w5 (Or.inr d5) b5.size)
  have B5 := hid_of b5
  clear d5 k5 b5 HR
  go_wp2_with fail
  refine HT.out.mono ?_
  rintro e w6 ⟨rfl, b6⟩
  have B6 := hid_of (B5.out.trans b6)
  clear b6 HT
  go_wp2_with fail
  go_ret2
  exact ⟨rfl, FRow.bel BB.out B6.out (Nat.le_refl _)⟩

set_option maxHeartbeats 4000000 in
set_option maxRecDepth 100000 in
theorem eraw4 (X : ByteArray) (aa ba ca : Option Addr) (an bn cn ac bc cc : Nat) (N : Nat) (full : Bs) (w : World) (hN : N + 1 ≤ 140737488355328)
    (HCk : Hid (∀ W, Below w.heap.size w W → Calls Try.prog 17 #[.agg #[.int .i64 4, .string X, .slice aa an ac, .slice ba bn bc, .slice ca cn cc]] W fun e w' => e = .returned (.tuple #[.iface 77 (.slice aa an ac), .int .i64 0]) ∧ Below W.heap.size W w'))
    (HWt : Hid (∀ W, Below w.heap.size w W → Calls Try.prog 70 #[.slice aa an ac] W fun e w' => e = .returned (.int .i64 (N : Int)) ∧ Below W.heap.size W w'))
    (HWr : Hid (∀ W B b, Below w.heap.size w W → w.heap.size ≤ B → B ≤ W.heap.size → BA B b [4] W → Calls Try.prog 71 #[.slice aa an ac, ptr b] W fun e w' => e = .returned (.tuple #[]) ∧ BA B b full w' ∧ Kp B b W w')) :
    Calls Try.prog 10 #[.agg #[.int .i64 4, .string X, .slice aa an ac, .slice ba bn bc, .slice ca cn cc]] w fun e w' => e = .returned (.tuple #[.string (mk full), .int .i64 0]) ∧ Below w.heap.size w w' := by
  obtain ⟨V, hV⟩ : ∃ V, V = w.alloc (.cells #[.int .i64 4, .string X, .slice aa an ac, .slice ba bn bc, .slice ca cn cc] 26) := ⟨_, rfl⟩
  have bV : Below w.heap.size w V := by rw [hV]; exact FRow.bnew w _
  have sV : V.heap.size = w.heap.size + 1 := by rw [hV]; simp
  have v0 : V.heap[w.heap.size]? = some (.cells #[.int .i64 4, .string X, .slice aa an ac, .slice ba bn bc, .slice ca cn cc] 26 (0, 0)) := by rw [hV]; exact heap_alloc_new w _
  have HV := hid_of hV
  have HB := hid_of bV
  have HX := hid_of fun (W : World) (hW : Below V.heap.size V W) => (hW.block _ (lt_of v0)).trans v0
  have HS := hid_of sV
  clear v0 bV hV sV
  go_enter Try.func10, Try.ntmps10
  go_wp2_with fail
  rw [← HV.out]
  refine (HCk.out V HB.out).mono ?_
  rintro e w1 ⟨rfl, b1⟩
  have B1 := hid_of b1
  have BB := hid_of (FRow.bel HB.out b1 (Nat.le_refl _))
  have hsz : w.heap.size + 1 ≤ w1.heap.size := by have := b1.size; have := HS.out; omega
  clear b1 HCk
  obtain ⟨W, hW⟩ : ∃ W, W = w1.alloc (.cells #[.pointer none, .slice none 0 0] 52) := ⟨_, rfl⟩
  have bW : Below w1.heap.size w1 W := by rw [hW]; exact FRow.bnew w1 _
  have w0 : W.heap[w1.heap.size]? = some (.cells #[.pointer none, .slice none 0 0] 52 (0, 0)) := by rw [hW]; exact heap_alloc_new w1 _
  have HW := hid_of hW
  have BW := hid_of bW
  have HW0 := hid_of w0
  clear bW w0 hW
  go_wp2_with fail
  rw [← HW.out]
  refine (HWt.out W (FRow.bel BB.out BW.out (Nat.le_refl _))).mono ?_
  rintro e w2 ⟨rfl, b2⟩
  have HG := hid_of (Try.Builder_Grow_fresh w1.heap.size w1.heap.size (N + 1) w2 (Nat.le_refl _) ((b2.block _ (lt_of HW0.out)).trans HW0.out) (Nat.le_trans BW.out.size b2.size) (by omega))
  have B2 := hid_of (FRow.bel BW.out b2 (Nat.le_refl _))
  have n1 : IntKind.i64.wrap (1 + (N : Int)) = ((N + 1 : Nat) : Int) := by rw [show ((N + 1 : Nat) : Int) = 1 + (N : Int) by omega]; exact IntWalk.i64_in _ (by omega)
  obtain ⟨M, hM⟩ : ∃ M, M = N + 1 := ⟨_, rfl⟩
  rw [← hM] at HG n1
  clear b2 HWt hM
  go_wp2_with fail
  refine HG.out.mono ?_
  rintro e w3 ⟨rfl, d3, b3⟩
  have d3' : BA w1.heap.size w1.heap.size [] w3 := d3
  have bb3 : Below w1.heap.size w1 w3 := B2.out.trans b3
  have x3 := HX.out w3 (FRow.bel B1.out bb3 (Nat.le_refl _))
  obtain ⟨⟨c0, _, _, _, _⟩, _⟩ := box5 x3
  have HP := hid_of (byte_call w1.heap.size w1.heap.size [] 4 w3 d3' (by decide) (Nat.le_trans B2.out.size b3.size))
  have B3 := hid_of bb3
  have u8 : IntKind.u8.wrap (4 : Int) = 4 := by decide
  clear d3 d3' b3 bb3 HG x3
  rw [show (((4 : UInt8).toNat : Int)) = 4 from rfl] at HP
  go_wp2_with fail
  refine HP.out.mono ?_
  rintro e w4 ⟨rfl, d4, k4⟩
  have b4 : Below w1.heap.size w1 w4 := B3.out.trans k4.1
  have HR := hid_of (HWr.out w4 w1.heap.size w1.heap.size (FRow.bel BB.out b4 (Nat.le_refl _)) (by omega) b4.size d4)
  have B4 := hid_of b4
  clear d4 k4 b4 HP HWr c0
  go_wp2_with fail
  refine HR.out.mono ?_
  rintro e w5 ⟨rfl, d5, k5⟩
  have b5 : Below w1.heap.size w1 w5 := B4.out.trans k5.1
  have HT : Hid (Calls Try.prog 20 #[ptr w1.heap.size] w5 fun e w' => e = .returned (.string (mk full)) ∧ Below w1.heap.size w5 w') := hid_of (Try.Builder_String_any w1.heap.size w1.heap.size full w5 (Or.inr d5) b5.size)
  have B5 := hid_of b5
  clear d5 k5 b5 HR
  go_wp2_with fail
  refine HT.out.mono ?_
  rintro e w6 ⟨rfl, b6⟩
  have B6 := hid_of (B5.out.trans b6)
  clear b6 HT
  go_wp2_with fail
  go_ret2
  exact ⟨rfl, FRow.bel BB.out B6.out (Nat.le_refl _)⟩

set_option maxHeartbeats 4000000 in
set_option maxRecDepth 100000 in
theorem eraw5 (X : ByteArray) (aa ba ca : Option Addr) (an bn cn ac bc cc : Nat) (N : Nat) (full : Bs) (w : World) (hN : N + 1 ≤ 140737488355328)
    (HCk : Hid (∀ W, Below w.heap.size w W → Calls Try.prog 17 #[.agg #[.int .i64 5, .string X, .slice aa an ac, .slice ba bn bc, .slice ca cn cc]] W fun e w' => e = .returned (.tuple #[.iface 78 (.slice ca cn cc), .int .i64 0]) ∧ Below W.heap.size W w'))
    (HWt : Hid (∀ W, Below w.heap.size w W → Calls Try.prog 73 #[.slice ca cn cc] W fun e w' => e = .returned (.int .i64 (N : Int)) ∧ Below W.heap.size W w'))
    (HWr : Hid (∀ W B b, Below w.heap.size w W → w.heap.size ≤ B → B ≤ W.heap.size → BA B b [5] W → Calls Try.prog 74 #[.slice ca cn cc, ptr b] W fun e w' => e = .returned (.tuple #[]) ∧ BA B b full w' ∧ Kp B b W w')) :
    Calls Try.prog 10 #[.agg #[.int .i64 5, .string X, .slice aa an ac, .slice ba bn bc, .slice ca cn cc]] w fun e w' => e = .returned (.tuple #[.string (mk full), .int .i64 0]) ∧ Below w.heap.size w w' := by
  obtain ⟨V, hV⟩ : ∃ V, V = w.alloc (.cells #[.int .i64 5, .string X, .slice aa an ac, .slice ba bn bc, .slice ca cn cc] 26) := ⟨_, rfl⟩
  have bV : Below w.heap.size w V := by rw [hV]; exact FRow.bnew w _
  have sV : V.heap.size = w.heap.size + 1 := by rw [hV]; simp
  have v0 : V.heap[w.heap.size]? = some (.cells #[.int .i64 5, .string X, .slice aa an ac, .slice ba bn bc, .slice ca cn cc] 26 (0, 0)) := by rw [hV]; exact heap_alloc_new w _
  have HV := hid_of hV
  have HB := hid_of bV
  have HX := hid_of fun (W : World) (hW : Below V.heap.size V W) => (hW.block _ (lt_of v0)).trans v0
  have HS := hid_of sV
  clear v0 bV hV sV
  go_enter Try.func10, Try.ntmps10
  go_wp2_with fail
  rw [← HV.out]
  refine (HCk.out V HB.out).mono ?_
  rintro e w1 ⟨rfl, b1⟩
  have B1 := hid_of b1
  have BB := hid_of (FRow.bel HB.out b1 (Nat.le_refl _))
  have hsz : w.heap.size + 1 ≤ w1.heap.size := by have := b1.size; have := HS.out; omega
  clear b1 HCk
  obtain ⟨W, hW⟩ : ∃ W, W = w1.alloc (.cells #[.pointer none, .slice none 0 0] 52) := ⟨_, rfl⟩
  have bW : Below w1.heap.size w1 W := by rw [hW]; exact FRow.bnew w1 _
  have w0 : W.heap[w1.heap.size]? = some (.cells #[.pointer none, .slice none 0 0] 52 (0, 0)) := by rw [hW]; exact heap_alloc_new w1 _
  have HW := hid_of hW
  have BW := hid_of bW
  have HW0 := hid_of w0
  clear bW w0 hW
  go_wp2_with fail
  rw [← HW.out]
  refine (HWt.out W (FRow.bel BB.out BW.out (Nat.le_refl _))).mono ?_
  rintro e w2 ⟨rfl, b2⟩
  have HG := hid_of (Try.Builder_Grow_fresh w1.heap.size w1.heap.size (N + 1) w2 (Nat.le_refl _) ((b2.block _ (lt_of HW0.out)).trans HW0.out) (Nat.le_trans BW.out.size b2.size) (by omega))
  have B2 := hid_of (FRow.bel BW.out b2 (Nat.le_refl _))
  have n1 : IntKind.i64.wrap (1 + (N : Int)) = ((N + 1 : Nat) : Int) := by rw [show ((N + 1 : Nat) : Int) = 1 + (N : Int) by omega]; exact IntWalk.i64_in _ (by omega)
  obtain ⟨M, hM⟩ : ∃ M, M = N + 1 := ⟨_, rfl⟩
  rw [← hM] at HG n1
  clear b2 HWt hM
  go_wp2_with fail
  refine HG.out.mono ?_
  rintro e w3 ⟨rfl, d3, b3⟩
  have d3' : BA w1.heap.size w1.heap.size [] w3 := d3
  have bb3 : Below w1.heap.size w1 w3 := B2.out.trans b3
  have x3 := HX.out w3 (FRow.bel B1.out bb3 (Nat.le_refl _))
  obtain ⟨⟨c0, _, _, _, _⟩, _⟩ := box5 x3
  have HP := hid_of (byte_call w1.heap.size w1.heap.size [] 5 w3 d3' (by decide) (Nat.le_trans B2.out.size b3.size))
  have B3 := hid_of bb3
  have u8 : IntKind.u8.wrap (5 : Int) = 5 := by decide
  clear d3 d3' b3 bb3 HG x3
  rw [show (((5 : UInt8).toNat : Int)) = 5 from rfl] at HP
  go_wp2_with fail
  refine HP.out.mono ?_
  rintro e w4 ⟨rfl, d4, k4⟩
  have b4 : Below w1.heap.size w1 w4 := B3.out.trans k4.1
  have HR := hid_of (HWr.out w4 w1.heap.size w1.heap.size (FRow.bel BB.out b4 (Nat.le_refl _)) (by omega) b4.size d4)
  have B4 := hid_of b4
  clear d4 k4 b4 HP HWr c0
  go_wp2_with fail
  refine HR.out.mono ?_
  rintro e w5 ⟨rfl, d5, k5⟩
  have b5 : Below w1.heap.size w1 w5 := B4.out.trans k5.1
  have HT : Hid (Calls Try.prog 20 #[ptr w1.heap.size] w5 fun e w' => e = .returned (.string (mk full)) ∧ Below w1.heap.size w5 w') := hid_of (Try.Builder_String_any w1.heap.size w1.heap.size full w5 (Or.inr d5) b5.size)
  have B5 := hid_of b5
  clear d5 k5 b5 HR
  go_wp2_with fail
  refine HT.out.mono ?_
  rintro e w6 ⟨rfl, b6⟩
  have B6 := hid_of (B5.out.trans b6)
  clear b6 HT
  go_wp2_with fail
  go_ret2
  exact ⟨rfl, FRow.bel BB.out B6.out (Nat.le_refl _)⟩

set_option maxHeartbeats 4000000 in
set_option maxRecDepth 100000 in
theorem eraw0 (k : Int) (X : ByteArray) (aa ba ca : Option Addr) (an bn cn ac bc cc : Nat) (E : Int) (hE : E ≠ 0) (w : World)
    (HCk : Hid (∀ W, Below w.heap.size w W → Calls Try.prog 17 #[.agg #[.int .i64 k, .string X, .slice aa an ac, .slice ba bn bc, .slice ca cn cc]] W fun e w' => e = .returned (.tuple #[.nilIface, .int .i64 E]) ∧ Below W.heap.size W w')) :
    Calls Try.prog 10 #[.agg #[.int .i64 k, .string X, .slice aa an ac, .slice ba bn bc, .slice ca cn cc]] w fun e w' => e = .returned (.tuple #[.string ⟨#[]⟩, .int .i64 E]) ∧ Below w.heap.size w w' := by
  obtain ⟨V, hV⟩ : ∃ V, V = w.alloc (.cells #[.int .i64 k, .string X, .slice aa an ac, .slice ba bn bc, .slice ca cn cc] 26) := ⟨_, rfl⟩
  have bV : Below w.heap.size w V := by rw [hV]; exact FRow.bnew w _
  have HV := hid_of hV
  have HB := hid_of bV
  have e1 : (E != 0) = true := by simpa using hE
  clear bV hV hE
  go_enter Try.func10, Try.ntmps10
  go_wp2_with fail
  rw [← HV.out]
  refine (HCk.out V HB.out).mono ?_
  rintro e w1 ⟨rfl, b1⟩
  have BB := hid_of (FRow.bel HB.out b1 (Nat.le_refl _))
  clear b1 HCk
  go_wp2_with fail
  go_ret2
  exact ⟨rfl, BB.out⟩

end Go.Proofs.Ytdcnkdkhanmklab.Enc0
