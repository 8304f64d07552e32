/- EXPIRE and its likes; PERSIST. -/
import Derived.Test.YtminfpkigenahaaGreatDoorParseM
import Derived.Test.YtminfpkigenahaaGreatDoorKMvM
import Derived.Test.YtminfpkigenahaaGreatDoorGMatchM
import Derived.Test.YtminfpkigenahaaGreatDoorRowOfM
import Derived.WalkMore
import Derived.ScopeJumps
namespace Go.Proofs.YtminfpkigenahaaGreatDoor.KExp
open Go.RowKit Go.Maps
open Go.Proofs.YtminfpkigenahaaGreatDoor.SpaceMath (wout withL lkp keys Ris toD)
open Go.Proofs.YtminfpkigenahaaGreatDoor.ValueMath (Vl chk small)
open Go.Proofs.YtminfpkigenahaaGreatDoor.Base (mk mk_list mk_size Gr hid_of SL)
open Go.Proofs.YtminfpkigenahaaGreatDoor.Turn
open Go.Proofs.YtminfpkigenahaaGreatDoor.Vals
open Go.Proofs.YtminfpkigenahaaGreatDoor.Check0 (Wel)
open Go.Proofs.YtminfpkigenahaaGreatDoor.SBase
open Go.Proofs.YtminfpkigenahaaGreatDoor.SFind
open Go.Proofs.YtminfpkigenahaaGreatDoor.SPut (vO)
open Go.Proofs.YtminfpkigenahaaGreatDoor.QBase
open Go.Proofs.YtminfpkigenahaaGreatDoor.KCmd
open Go.Proofs.YtminfpkigenahaaGreatDoor.Parse (Has)
set_option linter.unusedVariables false
set_option linter.unusedSimpArgs false
open Go.Proofs.YtminfpkigenahaaGreatDoor.KEx
open Go.Proofs.YtminfpkigenahaaGreatDoor.TextMath
open Go.Proofs.YtminfpkigenahaaGreatDoor.Low (low)
set_option maxRecDepth 100000 in
theorem any_0_1 (w : World) : Calls Tryz.prog 68 #[.int .i64 0, .int .i64 1] w fun e w' => e = .returned (.bool false) ∧ w' = w := by
  go_enter Tryz.func68, Tryz.ntmps68
  go_wp2_with fail
  go_ret
  exact ⟨rfl, rfl⟩
set_option maxRecDepth 100000 in
theorem any_0_4 (w : World) : Calls Tryz.prog 68 #[.int .i64 0, .int .i64 4] w fun e w' => e = .returned (.bool false) ∧ w' = w := by
  go_enter Tryz.func68, Tryz.ntmps68
  go_wp2_with fail
  go_ret
  exact ⟨rfl, rfl⟩
set_option maxRecDepth 100000 in
theorem any_0_6 (w : World) : Calls Tryz.prog 68 #[.int .i64 0, .int .i64 6] w fun e w' => e = .returned (.bool false) ∧ w' = w := by
  go_enter Tryz.func68, Tryz.ntmps68
  go_wp2_with fail
  go_ret
  exact ⟨rfl, rfl⟩
set_option maxRecDepth 100000 in
theorem any_0_8 (w : World) : Calls Tryz.prog 68 #[.int .i64 0, .int .i64 8] w fun e w' => e = .returned (.bool false) ∧ w' = w := by
  go_enter Tryz.func68, Tryz.ntmps68
  go_wp2_with fail
  go_ret
  exact ⟨rfl, rfl⟩
set_option maxRecDepth 100000 in
theorem any_0_14 (w : World) : Calls Tryz.prog 68 #[.int .i64 0, .int .i64 14] w fun e w' => e = .returned (.bool false) ∧ w' = w := by
  go_enter Tryz.func68, Tryz.ntmps68
  go_wp2_with fail
  go_ret
  exact ⟨rfl, rfl⟩
set_option maxRecDepth 100000 in
theorem any_1_1 (w : World) : Calls Tryz.prog 68 #[.int .i64 1, .int .i64 1] w fun e w' => e = .returned (.bool true) ∧ w' = w := by
  go_enter Tryz.func68, Tryz.ntmps68
  go_wp2_with fail
  go_ret
  exact ⟨rfl, rfl⟩
set_option maxRecDepth 100000 in
theorem any_1_4 (w : World) : Calls Tryz.prog 68 #[.int .i64 1, .int .i64 4] w fun e w' => e = .returned (.bool false) ∧ w' = w := by
  go_enter Tryz.func68, Tryz.ntmps68
  go_wp2_with fail
  go_ret
  exact ⟨rfl, rfl⟩
set_option maxRecDepth 100000 in
theorem any_1_6 (w : World) : Calls Tryz.prog 68 #[.int .i64 1, .int .i64 6] w fun e w' => e = .returned (.bool false) ∧ w' = w := by
  go_enter Tryz.func68, Tryz.ntmps68
  go_wp2_with fail
  go_ret
  exact ⟨rfl, rfl⟩
set_option maxRecDepth 100000 in
theorem any_1_8 (w : World) : Calls Tryz.prog 68 #[.int .i64 1, .int .i64 8] w fun e w' => e = .returned (.bool false) ∧ w' = w := by
  go_enter Tryz.func68, Tryz.ntmps68
  go_wp2_with fail
  go_ret
  exact ⟨rfl, rfl⟩
set_option maxRecDepth 100000 in
theorem any_1_14 (w : World) : Calls Tryz.prog 68 #[.int .i64 1, .int .i64 14] w fun e w' => e = .returned (.bool false) ∧ w' = w := by
  go_enter Tryz.func68, Tryz.ntmps68
  go_wp2_with fail
  go_ret
  exact ⟨rfl, rfl⟩
set_option maxRecDepth 100000 in
theorem any_4_1 (w : World) : Calls Tryz.prog 68 #[.int .i64 4, .int .i64 1] w fun e w' => e = .returned (.bool false) ∧ w' = w := by
  go_enter Tryz.func68, Tryz.ntmps68
  go_wp2_with fail
  go_ret
  exact ⟨rfl, rfl⟩
set_option maxRecDepth 100000 in
theorem any_4_4 (w : World) : Calls Tryz.prog 68 #[.int .i64 4, .int .i64 4] w fun e w' => e = .returned (.bool true) ∧ w' = w := by
  go_enter Tryz.func68, Tryz.ntmps68
  go_wp2_with fail
  go_ret
  exact ⟨rfl, rfl⟩
set_option maxRecDepth 100000 in
theorem any_4_6 (w : World) : Calls Tryz.prog 68 #[.int .i64 4, .int .i64 6] w fun e w' => e = .returned (.bool true) ∧ w' = w := by
  go_enter Tryz.func68, Tryz.ntmps68
  go_wp2_with fail
  go_ret
  exact ⟨rfl, rfl⟩
set_option maxRecDepth 100000 in
theorem any_4_8 (w : World) : Calls Tryz.prog 68 #[.int .i64 4, .int .i64 8] w fun e w' => e = .returned (.bool false) ∧ w' = w := by
  go_enter Tryz.func68, Tryz.ntmps68
  go_wp2_with fail
  go_ret
  exact ⟨rfl, rfl⟩
set_option maxRecDepth 100000 in
theorem any_4_14 (w : World) : Calls Tryz.prog 68 #[.int .i64 4, .int .i64 14] w fun e w' => e = .returned (.bool true) ∧ w' = w := by
  go_enter Tryz.func68, Tryz.ntmps68
  go_wp2_with fail
  go_ret
  exact ⟨rfl, rfl⟩
set_option maxRecDepth 100000 in
theorem any_8_1 (w : World) : Calls Tryz.prog 68 #[.int .i64 8, .int .i64 1] w fun e w' => e = .returned (.bool false) ∧ w' = w := by
  go_enter Tryz.func68, Tryz.ntmps68
  go_wp2_with fail
  go_ret
  exact ⟨rfl, rfl⟩
set_option maxRecDepth 100000 in
theorem any_8_4 (w : World) : Calls Tryz.prog 68 #[.int .i64 8, .int .i64 4] w fun e w' => e = .returned (.bool false) ∧ w' = w := by
  go_enter Tryz.func68, Tryz.ntmps68
  go_wp2_with fail
  go_ret
  exact ⟨rfl, rfl⟩
set_option maxRecDepth 100000 in
theorem any_8_6 (w : World) : Calls Tryz.prog 68 #[.int .i64 8, .int .i64 6] w fun e w' => e = .returned (.bool false) ∧ w' = w := by
  go_enter Tryz.func68, Tryz.ntmps68
  go_wp2_with fail
  go_ret
  exact ⟨rfl, rfl⟩
set_option maxRecDepth 100000 in
theorem any_8_8 (w : World) : Calls Tryz.prog 68 #[.int .i64 8, .int .i64 8] w fun e w' => e = .returned (.bool true) ∧ w' = w := by
  go_enter Tryz.func68, Tryz.ntmps68
  go_wp2_with fail
  go_ret
  exact ⟨rfl, rfl⟩
set_option maxRecDepth 100000 in
theorem any_8_14 (w : World) : Calls Tryz.prog 68 #[.int .i64 8, .int .i64 14] w fun e w' => e = .returned (.bool true) ∧ w' = w := by
  go_enter Tryz.func68, Tryz.ntmps68
  go_wp2_with fail
  go_ret
  exact ⟨rfl, rfl⟩
set_option maxRecDepth 100000 in
theorem any_15_1 (w : World) : Calls Tryz.prog 68 #[.int .i64 15, .int .i64 1] w fun e w' => e = .returned (.bool true) ∧ w' = w := by
  go_enter Tryz.func68, Tryz.ntmps68
  go_wp2_with fail
  go_ret
  exact ⟨rfl, rfl⟩
set_option maxRecDepth 100000 in
theorem any_15_4 (w : World) : Calls Tryz.prog 68 #[.int .i64 15, .int .i64 4] w fun e w' => e = .returned (.bool true) ∧ w' = w := by
  go_enter Tryz.func68, Tryz.ntmps68
  go_wp2_with fail
  go_ret
  exact ⟨rfl, rfl⟩
set_option maxRecDepth 100000 in
theorem any_15_8 (w : World) : Calls Tryz.prog 68 #[.int .i64 15, .int .i64 8] w fun e w' => e = .returned (.bool true) ∧ w' = w := by
  go_enter Tryz.func68, Tryz.ntmps68
  go_wp2_with fail
  go_ret
  exact ⟨rfl, rfl⟩
set_option maxHeartbeats 4000000 in
set_option maxRecDepth 100000 in
theorem clash_1 (w : World) : Calls Tryz.prog 99 #[.int .i64 1] w fun e w' => e = .returned (.bool false) ∧ w' = w := by
  go_enter Tryz.func99, Tryz.ntmps99
  go_wp2_with fail
  refine (any_1_1 _).mono ?_
  rintro e w1 ⟨rfl, rfl⟩
  go_wp2_with fail
  refine (any_1_14 _).mono ?_
  rintro e w1 ⟨rfl, rfl⟩
  go_wp2_with fail
  refine (any_1_4 _).mono ?_
  rintro e w1 ⟨rfl, rfl⟩
  go_wp2_with fail
  go_ret
  exact ⟨rfl, rfl⟩
set_option maxHeartbeats 4000000 in
set_option maxRecDepth 100000 in
theorem clash_4 (w : World) : Calls Tryz.prog 99 #[.int .i64 4] w fun e w' => e = .returned (.bool false) ∧ w' = w := by
  go_enter Tryz.func99, Tryz.ntmps99
  go_wp2_with fail
  refine (any_4_1 _).mono ?_
  rintro e w1 ⟨rfl, rfl⟩
  go_wp2_with fail
  refine (any_4_4 _).mono ?_
  rintro e w1 ⟨rfl, rfl⟩
  go_wp2_with fail
  refine (any_4_8 _).mono ?_
  rintro e w1 ⟨rfl, rfl⟩
  go_wp2_with fail
  go_ret
  exact ⟨rfl, rfl⟩
set_option maxHeartbeats 4000000 in
set_option maxRecDepth 100000 in
theorem clash_8 (w : World) : Calls Tryz.prog 99 #[.int .i64 8] w fun e w' => e = .returned (.bool false) ∧ w' = w := by
  go_enter Tryz.func99, Tryz.ntmps99
  go_wp2_with fail
  refine (any_8_1 _).mono ?_
  rintro e w1 ⟨rfl, rfl⟩
  go_wp2_with fail
  refine (any_8_4 _).mono ?_
  rintro e w1 ⟨rfl, rfl⟩
  go_wp2_with fail
  go_ret
  exact ⟨rfl, rfl⟩
/-- whether a key stays as it is -/
def barB (fl was due : Int) : Bool := if fl = 1 then decide (0 < was) else if fl = 4 then (!decide (0 < was) || decide (due ≤ was)) else if fl = 8 then (decide (0 < was) && decide (was ≤ due)) else false
set_option maxHeartbeats 4000000 in
set_option maxRecDepth 100000 in
theorem bar_0 (was due : Int) (w : World) : Calls Tryz.prog 107 #[.int .i64 0, .int .i64 was, .int .i64 due] w fun e w' => e = .returned (.bool false) ∧ w' = w := by
  go_enter Tryz.func107, Tryz.ntmps107
  go_wp2_with fail
  refine (any_0_1 _).mono ?_
  rintro e w1 ⟨rfl, rfl⟩
  go_wp2_with fail
  refine (any_0_6 _).mono ?_
  rintro e w1 ⟨rfl, rfl⟩
  go_wp2_with fail
  refine (any_0_4 _).mono ?_
  rintro e w1 ⟨rfl, rfl⟩
  go_wp2_with fail
  refine (any_0_8 _).mono ?_
  rintro e w1 ⟨rfl, rfl⟩
  go_wp2_with fail
  go_ret
  exact ⟨rfl, rfl⟩
set_option maxHeartbeats 4000000 in
set_option maxRecDepth 100000 in
theorem bar_1 (was due : Int) (hw : 0 < was) (w : World) : Calls Tryz.prog 107 #[.int .i64 1, .int .i64 was, .int .i64 due] w fun e w' => e = .returned (.bool true) ∧ w' = w := by
  go_enter Tryz.func107, Tryz.ntmps107
  go_wp2_with fail
  refine (any_1_1 _).mono ?_
  rintro e w1 ⟨rfl, rfl⟩
  go_wp2_with fail
  go_ret
  exact ⟨rfl, rfl⟩
set_option maxHeartbeats 4000000 in
set_option maxRecDepth 100000 in
theorem bar_4 (was due : Int) (hw : 0 < was) (hd : due ≤ was) (w : World) : Calls Tryz.prog 107 #[.int .i64 4, .int .i64 was, .int .i64 due] w fun e w' => e = .returned (.bool true) ∧ w' = w := by
  go_enter Tryz.func107, Tryz.ntmps107
  go_wp2_with fail
  refine (any_4_1 _).mono ?_
  rintro e w1 ⟨rfl, rfl⟩
  go_wp2_with fail
  refine (any_4_6 _).mono ?_
  rintro e w1 ⟨rfl, rfl⟩
  go_wp2_with fail
  refine (any_4_4 _).mono ?_
  rintro e w1 ⟨rfl, rfl⟩
  go_wp2_with fail
  go_ret
  exact ⟨rfl, rfl⟩
set_option maxHeartbeats 4000000 in
set_option maxRecDepth 100000 in
theorem bar_8 (was due : Int) (hw : 0 < was) (hd : was ≤ due) (w : World) : Calls Tryz.prog 107 #[.int .i64 8, .int .i64 was, .int .i64 due] w fun e w' => e = .returned (.bool true) ∧ w' = w := by
  go_enter Tryz.func107, Tryz.ntmps107
  go_wp2_with fail
  refine (any_8_1 _).mono ?_
  rintro e w1 ⟨rfl, rfl⟩
  go_wp2_with fail
  refine (any_8_6 _).mono ?_
  rintro e w1 ⟨rfl, rfl⟩
  go_wp2_with fail
  refine (any_8_4 _).mono ?_
  rintro e w1 ⟨rfl, rfl⟩
  go_wp2_with fail
  refine (any_8_8 _).mono ?_
  rintro e w1 ⟨rfl, rfl⟩
  go_wp2_with fail
  go_ret
  exact ⟨rfl, rfl⟩
set_option maxHeartbeats 4000000 in
set_option maxRecDepth 100000 in
theorem flags_none (a : Option Addr) (c : Nat) (may : Int) (w : World) : Calls Tryz.prog 65 #[.slice a 0 c, .int .i64 may] w fun e w' => e = .returned (.tuple #[.int .i64 0, .string ⟨#[]⟩]) ∧ w' = w := by
  go_enter Tryz.func65, Tryz.ntmps65
  go_wp2_with fail
  go_step3
  go_wp2_with fail
  go_step3
  go_wp2_with fail
  rw [Exit.noGoto_ret]
  go_ret2
  exact ⟨rfl, rfl⟩
set_option maxHeartbeats 4000000 in
set_option maxRecDepth 100000 in
theorem flagOf_gt (w : World) : Calls Tryz.prog 98 #[.string (mk [103, 116])] w fun e w' => e = .returned (.int .i64 4) ∧ w' = w := by
  have qnx : ((mk [103, 116]).toList == [110, 120]) = false := by rw [mk_list]; rfl
  have qxx : ((mk [103, 116]).toList == [120, 120]) = false := by rw [mk_list]; rfl
  have qgt : ((mk [103, 116]).toList == [103, 116]) = true := by rw [mk_list]; rfl
  have qlt : ((mk [103, 116]).toList == [108, 116]) = false := by rw [mk_list]; rfl
  generalize mk [103, 116] = T at *
  go_enter Tryz.func98, Tryz.ntmps98
  go_wp2_with fail
  go_ret
  exact ⟨rfl, rfl⟩
set_option maxHeartbeats 4000000 in
set_option maxRecDepth 100000 in
theorem flags_gt {a : Option Addr} {c : Nat} {w : World} {G : Nat → Prop} {t : Bs} (hl : SL G w (.slice a 1 c) [t]) (ht : t.map low = [103, 116]) : Calls Tryz.prog 65 #[.slice a 1 c, .int .i64 15] w fun e w' => e = .returned (.tuple #[.int .i64 4, .string ⟨#[]⟩]) ∧ Below w.heap.size w w' := by
  obtain ⟨-, hcs⟩ := sl_get hl
  obtain ⟨ga, oa, rfl, hc0⟩ := hcs 0 (by simp)
  rw [Nat.add_zero, show [t][0]'(by simp) = t from rfl] at hc0
  have htl : t.length = 2 := by have := congrArg List.length ht; simpa using this
  have HL := hid_of (Low.lower_call t w (by omega))
  rw [ht] at HL
  have HF := hid_of fun (V : World) => flagOf_gt V
  obtain ⟨a2, hc2⟩ := KRun.tail_cut hl (by simp)
  have hcu := hc2.2
  clear hcs hl hc2 ht htl
  generalize mk t = T at *
  generalize mk [103, 116] = TL at *
  go_enter Tryz.func65, Tryz.ntmps65
  go_wp2_with fail
  obtain ⟨J, hJ⟩ : ∃ J : Act → World → Prop, J = (fun a' w' => ∃ (u8 u9 u10 u11 u12 u13 u14 u15 u16 u17 u18 u19 u20 u21 u22 u23 u24 u25 u26 u27 u28 u29 : Value), a' = { tmps := #[.slice a2 0 (c - 1), .int .i64 15, undef, undef, .int .i64 0, .string ⟨#[]⟩, .int .i64 4, .int .i64 4, u8, u9, u10, u11, u12, u13, u14, u15, u16, u17, u18, u19, u20, u21, u22, u23, u24, u25, u26, u27, u28, u29], defers := [] } ∧ Hid (Below w.heap.size w w')) := ⟨_, rfl⟩
  have HJ := hid_of hJ
  clear hJ
  refine wp_scope_jumps 0 J (fun _ _ => 0) rfl ?_ ?_
  · go_wp2_with fail
    go_step3
    go_wp2_with fail
    refine HL.out.mono ?_
    rintro e w1 ⟨rfl, b1⟩
    have B1 := hid_of b1
    clear b1
    go_wp2_with fail
    refine (HF.out w1).mono ?_
    rintro e w2 ⟨rfl, rfl⟩
    go_wp2_with fail
    refine (any_15_4 _).mono ?_
    rintro e w3 ⟨rfl, rfl⟩
    go_wp2_with fail
    refine (clash_4 _).mono ?_
    rintro e w4 ⟨rfl, rfl⟩
    go_wp2_with fail
    go_step3
    refine ⟨rfl, ?_⟩
    rw [HJ.out]
    exact ⟨_, _, _, _, _, _, _, _, _, _, _, _, _, _, _, _, _, _, _, _, _, _, rfl, B1⟩
  · intro a' w' hja
    rw [HJ.out] at hja
    obtain ⟨u8, u9, u10, u11, u12, u13, u14, u15, u16, u17, u18, u19, u20, u21, u22, u23, u24, u25, u26, u27, u28, u29, rfl, B⟩ := hja
    go_wp2_with fail
    unfold Exit.jump
    go_ret2
    exact ⟨rfl, B.out⟩
set_option maxHeartbeats 4000000 in
set_option maxRecDepth 100000 in
theorem flagOf_lt (w : World) : Calls Tryz.prog 98 #[.string (mk [108, 116])] w fun e w' => e = .returned (.int .i64 8) ∧ w' = w := by
  have qnx : ((mk [108, 116]).toList == [110, 120]) = false := by rw [mk_list]; rfl
  have qxx : ((mk [108, 116]).toList == [120, 120]) = false := by rw [mk_list]; rfl
  have qgt : ((mk [108, 116]).toList == [103, 116]) = false := by rw [mk_list]; rfl
  have qlt : ((mk [108, 116]).toList == [108, 116]) = true := by rw [mk_list]; rfl
  generalize mk [108, 116] = T at *
  go_enter Tryz.func98, Tryz.ntmps98
  go_wp2_with fail
  go_ret
  exact ⟨rfl, rfl⟩
set_option maxHeartbeats 4000000 in
set_option maxRecDepth 100000 in
theorem flags_lt {a : Option Addr} {c : Nat} {w : World} {G : Nat → Prop} {t : Bs} (hl : SL G w (.slice a 1 c) [t]) (ht : t.map low = [108, 116]) : Calls Tryz.prog 65 #[.slice a 1 c, .int .i64 15] w fun e w' => e = .returned (.tuple #[.int .i64 8, .string ⟨#[]⟩]) ∧ Below w.heap.size w w' := by
  obtain ⟨-, hcs⟩ := sl_get hl
  obtain ⟨ga, oa, rfl, hc0⟩ := hcs 0 (by simp)
  rw [Nat.add_zero, show [t][0]'(by simp) = t from rfl] at hc0
  have htl : t.length = 2 := by have := congrArg List.length ht; simpa using this
  have HL := hid_of (Low.lower_call t w (by omega))
  rw [ht] at HL
  have HF := hid_of fun (V : World) => flagOf_lt V
  obtain ⟨a2, hc2⟩ := KRun.tail_cut hl (by simp)
  have hcu := hc2.2
  clear hcs hl hc2 ht htl
  generalize mk t = T at *
  generalize mk [108, 116] = TL at *
  go_enter Tryz.func65, Tryz.ntmps65
  go_wp2_with fail
  obtain ⟨J, hJ⟩ : ∃ J : Act → World → Prop, J = (fun a' w' => ∃ (u8 u9 u10 u11 u12 u13 u14 u15 u16 u17 u18 u19 u20 u21 u22 u23 u24 u25 u26 u27 u28 u29 : Value), a' = { tmps := #[.slice a2 0 (c - 1), .int .i64 15, undef, undef, .int .i64 0, .string ⟨#[]⟩, .int .i64 8, .int .i64 8, u8, u9, u10, u11, u12, u13, u14, u15, u16, u17, u18, u19, u20, u21, u22, u23, u24, u25, u26, u27, u28, u29], defers := [] } ∧ Hid (Below w.heap.size w w')) := ⟨_, rfl⟩
  have HJ := hid_of hJ
  clear hJ
  refine wp_scope_jumps 0 J (fun _ _ => 0) rfl ?_ ?_
  · go_wp2_with fail
    go_step3
    go_wp2_with fail
    refine HL.out.mono ?_
    rintro e w1 ⟨rfl, b1⟩
    have B1 := hid_of b1
    clear b1
    go_wp2_with fail
    refine (HF.out w1).mono ?_
    rintro e w2 ⟨rfl, rfl⟩
    go_wp2_with fail
    refine (any_15_8 _).mono ?_
    rintro e w3 ⟨rfl, rfl⟩
    go_wp2_with fail
    refine (clash_8 _).mono ?_
    rintro e w4 ⟨rfl, rfl⟩
    go_wp2_with fail
    go_step3
    refine ⟨rfl, ?_⟩
    rw [HJ.out]
    exact ⟨_, _, _, _, _, _, _, _, _, _, _, _, _, _, _, _, _, _, _, _, _, _, rfl, B1⟩
  · intro a' w' hja
    rw [HJ.out] at hja
    obtain ⟨u8, u9, u10, u11, u12, u13, u14, u15, u16, u17, u18, u19, u20, u21, u22, u23, u24, u25, u26, u27, u28, u29, rfl, B⟩ := hja
    go_wp2_with fail
    unfold Exit.jump
    go_ret2
    exact ⟨rfl, B.out⟩
set_option maxHeartbeats 4000000 in
set_option maxRecDepth 100000 in
theorem flagOf_nx (w : World) : Calls Tryz.prog 98 #[.string (mk [110, 120])] w fun e w' => e = .returned (.int .i64 1) ∧ w' = w := by
  have qnx : ((mk [110, 120]).toList == [110, 120]) = true := by rw [mk_list]; rfl
  have qxx : ((mk [110, 120]).toList == [120, 120]) = false := by rw [mk_list]; rfl
  have qgt : ((mk [110, 120]).toList == [103, 116]) = false := by rw [mk_list]; rfl
  have qlt : ((mk [110, 120]).toList == [108, 116]) = false := by rw [mk_list]; rfl
  generalize mk [110, 120] = T at *
  go_enter Tryz.func98, Tryz.ntmps98
  go_wp2_with fail
  go_ret
  exact ⟨rfl, rfl⟩
set_option maxHeartbeats 4000000 in
set_option maxRecDepth 100000 in
theorem flags_nx {a : Option Addr} {c : Nat} {w : World} {G : Nat → Prop} {t : Bs} (hl : SL G w (.slice a 1 c) [t]) (ht : t.map low = [110, 120]) : Calls Tryz.prog 65 #[.slice a 1 c, .int .i64 15] w fun e w' => e = .returned (.tuple #[.int .i64 1, .string ⟨#[]⟩]) ∧ Below w.heap.size w w' := by
  obtain ⟨-, hcs⟩ := sl_get hl
  obtain ⟨ga, oa, rfl, hc0⟩ := hcs 0 (by simp)
  rw [Nat.add_zero, show [t][0]'(by simp) = t from rfl] at hc0
  have htl : t.length = 2 := by have := congrArg List.length ht; simpa using this
  have HL := hid_of (Low.lower_call t w (by omega))
  rw [ht] at HL
  have HF := hid_of fun (V : World) => flagOf_nx V
  obtain ⟨a2, hc2⟩ := KRun.tail_cut hl (by simp)
  have hcu := hc2.2
  clear hcs hl hc2 ht htl
  generalize mk t = T at *
  generalize mk [110, 120] = TL at *
  go_enter Tryz.func65, Tryz.ntmps65
  go_wp2_with fail
  obtain ⟨J, hJ⟩ : ∃ J : Act → World → Prop, J = (fun a' w' => ∃ (u8 u9 u10 u11 u12 u13 u14 u15 u16 u17 u18 u19 u20 u21 u22 u23 u24 u25 u26 u27 u28 u29 : Value), a' = { tmps := #[.slice a2 0 (c - 1), .int .i64 15, undef, undef, .int .i64 0, .string ⟨#[]⟩, .int .i64 1, .int .i64 1, u8, u9, u10, u11, u12, u13, u14, u15, u16, u17, u18, u19, u20, u21, u22, u23, u24, u25, u26, u27, u28, u29], defers := [] } ∧ Hid (Below w.heap.size w w')) := ⟨_, rfl⟩
  have HJ := hid_of hJ
  clear hJ
  refine wp_scope_jumps 0 J (fun _ _ => 0) rfl ?_ ?_
  · go_wp2_with fail
    go_step3
    go_wp2_with fail
    refine HL.out.mono ?_
    rintro e w1 ⟨rfl, b1⟩
    have B1 := hid_of b1
    clear b1
    go_wp2_with fail
    refine (HF.out w1).mono ?_
    rintro e w2 ⟨rfl, rfl⟩
    go_wp2_with fail
    refine (any_15_1 _).mono ?_
    rintro e w3 ⟨rfl, rfl⟩
    go_wp2_with fail
    refine (clash_1 _).mono ?_
    rintro e w4 ⟨rfl, rfl⟩
    go_wp2_with fail
    go_step3
    refine ⟨rfl, ?_⟩
    rw [HJ.out]
    exact ⟨_, _, _, _, _, _, _, _, _, _, _, _, _, _, _, _, _, _, _, _, _, _, rfl, B1⟩
  · intro a' w' hja
    rw [HJ.out] at hja
    obtain ⟨u8, u9, u10, u11, u12, u13, u14, u15, u16, u17, u18, u19, u20, u21, u22, u23, u24, u25, u26, u27, u28, u29, rfl, B⟩ := hja
    go_wp2_with fail
    unfold Exit.jump
    go_ret2
    exact ⟨rfl, B.out⟩
end Go.Proofs.YtminfpkigenahaaGreatDoor.KExp
