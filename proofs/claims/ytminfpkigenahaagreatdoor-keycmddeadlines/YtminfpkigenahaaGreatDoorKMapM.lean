/- The commands' map: names and functions. The tables: the program's seven, the document's one, and that they say the same. A row of operations that only make values and blocks, run by reckoning. A function that lays a table: values, then a row of them. -/
import Derived.Test.YtminfpkigenahaaGreatDoorQBaseM
import Derived.Carry
import Derived.Test.YtminfpkigenahaaGreatDoorProg
import Derived.WalkKit
import Derived.Great.BuildSlice
section
namespace Go.Proofs.YtminfpkigenahaaGreatDoor.KMap
open Go.RowKit Go.Maps
open Go.Proofs.YtminfpkigenahaaGreatDoor.SpaceMath
open Go.Proofs.YtminfpkigenahaaGreatDoor.Base (mk mk_list mk_size Gr hid_of SL)
open Go.Proofs.YtminfpkigenahaaGreatDoor.Turn
open Go.Proofs.YtminfpkigenahaaGreatDoor.Vals
open Go.Proofs.YtminfpkigenahaaGreatDoor.SBase (KL RH RH_inv)
open Go.Proofs.YtminfpkigenahaaGreatDoor.SFind (alb)
open Go.Proofs.YtminfpkigenahaaGreatDoor.Swap (law9 key9)
open Go.Proofs.YtminfpkigenahaaGreatDoor.SSet (owns_norm)
set_option linter.unusedVariables false
set_option linter.unusedSimpArgs false
abbrev mO : Obj := .map #[] 0
abbrev fnV (f : FuncId) : Value := .func (.func f) #[] #[]
theorem step {w W : World} {L : KL Value} (own : W.ownsMap Tryz.prog 9 RH w.heap.size L.length (toD L)) (ev : Ev (fun k => k = w.heap.size) (w.alloc mO) W) (hL : L.length < 1000) (k : SetMath.Bs) (hk : k.length ≤ 281474976710656) (v : Value) :
    ∃ W', (Instr.mapUpdate 80 (.map (some w.heap.size)) (.string (mk k)) v).run Tryz.prog W = .ok () W' ∧ W'.ownsMap Tryz.prog 9 RH w.heap.size (withL L k v).length (toD (withL L k v)) ∧ Ev (fun k => k = w.heap.size) (w.alloc mO) W' := by
  obtain ⟨W', h1, h2, h3⟩ := own.store law9 Tryz.underlying80 (by unfold maxLen; omega) (key9 k hk) (show RH v = some (.held v, []) from rfl)
  rw [put_D] at h2
  exact ⟨W', h1, owns_norm h2, ev.trans (Ev.turned h3 rfl)⟩
def cmdL : KL Value := [([99, 111, 112, 121], fnV 37), ([100, 98, 115, 105, 122, 101], fnV 38), ([100, 101, 108], fnV 39), ([100, 117, 109, 112], fnV 40), ([101, 99, 104, 111], fnV 41), ([101, 120, 105, 115, 116, 115], fnV 42), ([101, 120, 112, 105, 114, 101], fnV 43), ([101, 120, 112, 105, 114, 101, 97, 116], fnV 44), ([101, 120, 112, 105, 114, 101, 116, 105, 109, 101], fnV 45), ([102, 108, 117, 115, 104, 97, 108, 108], fnV 46), ([102, 108, 117, 115, 104, 100, 98], fnV 46), ([107, 101, 121, 115], fnV 47), ([112, 101, 114, 115, 105, 115, 116], fnV 48), ([112, 101, 120, 112, 105, 114, 101], fnV 49), ([112, 101, 120, 112, 105, 114, 101, 97, 116], fnV 50), ([112, 101, 120, 112, 105, 114, 101, 116, 105, 109, 101], fnV 51), ([112, 105, 110, 103], fnV 52), ([112, 116, 116, 108], fnV 53), ([114, 101, 110, 97, 109, 101], fnV 54), ([114, 101, 110, 97, 109, 101, 110, 120], fnV 55), ([114, 101, 115, 116, 111, 114, 101], fnV 56), ([115, 99, 97, 110], fnV 57), ([116, 116, 108], fnV 58), ([116, 121, 112, 101], fnV 59), ([117, 110, 108, 105, 110, 107], fnV 39)]
theorem cmd_take (i : Nat) : (cmdL.take i).length < 1000 := by
  rw [List.length_take]
  exact Nat.lt_of_le_of_lt (Nat.min_le_right _ _) (by decide)
theorem put0 : withL (cmdL.take 0) [99, 111, 112, 121] (fnV 37) = cmdL.take 1 := by kernel_rfl
theorem put1 : withL (cmdL.take 1) [100, 98, 115, 105, 122, 101] (fnV 38) = cmdL.take 2 := by kernel_rfl
theorem put2 : withL (cmdL.take 2) [100, 101, 108] (fnV 39) = cmdL.take 3 := by kernel_rfl
theorem put3 : withL (cmdL.take 3) [100, 117, 109, 112] (fnV 40) = cmdL.take 4 := by kernel_rfl
theorem put4 : withL (cmdL.take 4) [101, 99, 104, 111] (fnV 41) = cmdL.take 5 := by kernel_rfl
theorem put5 : withL (cmdL.take 5) [101, 120, 105, 115, 116, 115] (fnV 42) = cmdL.take 6 := by kernel_rfl
theorem put6 : withL (cmdL.take 6) [101, 120, 112, 105, 114, 101] (fnV 43) = cmdL.take 7 := by kernel_rfl
theorem put7 : withL (cmdL.take 7) [101, 120, 112, 105, 114, 101, 97, 116] (fnV 44) = cmdL.take 8 := by kernel_rfl
theorem put8 : withL (cmdL.take 8) [101, 120, 112, 105, 114, 101, 116, 105, 109, 101] (fnV 45) = cmdL.take 9 := by kernel_rfl
theorem put9 : withL (cmdL.take 9) [102, 108, 117, 115, 104, 97, 108, 108] (fnV 46) = cmdL.take 10 := by kernel_rfl
theorem put10 : withL (cmdL.take 10) [102, 108, 117, 115, 104, 100, 98] (fnV 46) = cmdL.take 11 := by kernel_rfl
theorem put11 : withL (cmdL.take 11) [107, 101, 121, 115] (fnV 47) = cmdL.take 12 := by kernel_rfl
theorem put12 : withL (cmdL.take 12) [112, 101, 114, 115, 105, 115, 116] (fnV 48) = cmdL.take 13 := by kernel_rfl
theorem put13 : withL (cmdL.take 13) [112, 101, 120, 112, 105, 114, 101] (fnV 49) = cmdL.take 14 := by kernel_rfl
theorem put14 : withL (cmdL.take 14) [112, 101, 120, 112, 105, 114, 101, 97, 116] (fnV 50) = cmdL.take 15 := by kernel_rfl
theorem put15 : withL (cmdL.take 15) [112, 101, 120, 112, 105, 114, 101, 116, 105, 109, 101] (fnV 51) = cmdL.take 16 := by kernel_rfl
theorem put16 : withL (cmdL.take 16) [112, 105, 110, 103] (fnV 52) = cmdL.take 17 := by kernel_rfl
theorem put17 : withL (cmdL.take 17) [112, 116, 116, 108] (fnV 53) = cmdL.take 18 := by kernel_rfl
theorem put18 : withL (cmdL.take 18) [114, 101, 110, 97, 109, 101] (fnV 54) = cmdL.take 19 := by kernel_rfl
theorem put19 : withL (cmdL.take 19) [114, 101, 110, 97, 109, 101, 110, 120] (fnV 55) = cmdL.take 20 := by kernel_rfl
theorem put20 : withL (cmdL.take 20) [114, 101, 115, 116, 111, 114, 101] (fnV 56) = cmdL.take 21 := by kernel_rfl
theorem put21 : withL (cmdL.take 21) [115, 99, 97, 110] (fnV 57) = cmdL.take 22 := by kernel_rfl
theorem put22 : withL (cmdL.take 22) [116, 116, 108] (fnV 58) = cmdL.take 23 := by kernel_rfl
theorem put23 : withL (cmdL.take 23) [116, 121, 112, 101] (fnV 59) = cmdL.take 24 := by kernel_rfl
theorem put24 : withL (cmdL.take 24) [117, 110, 108, 105, 110, 107] (fnV 39) = cmdL.take 25 := by kernel_rfl
set_option maxHeartbeats 4000000 in
set_option maxRecDepth 100000 in
theorem commands_call (w : World) : Calls Tryz.prog 29 #[] w fun e w' => e = .returned (.map (some w.heap.size)) ∧ w'.ownsMap Tryz.prog 9 RH w.heap.size cmdL.length (toD cmdL) ∧ Below w.heap.size w w' := by
  have o0 : (w.alloc mO).ownsMap Tryz.prog 9 RH w.heap.size (cmdL.take 0).length (toD (cmdL.take 0)) := World.ownsMap_made (H := Value) w Tryz.prog 9 RH
  have e0 := Ev.refl (fun k => k = w.heap.size) (w.alloc mO)
  obtain ⟨W1, r1, o1, e1⟩ := step o0 e0 (cmd_take 0) [99, 111, 112, 121] (by decide) (fnV 37)
  rw [put0] at o1
  have r1 : (Instr.mapUpdate 80 (.map (some w.heap.size)) (.string ⟨#[99, 111, 112, 121]⟩) (.func (.func 37) #[] #[])).run Tryz.prog (w.alloc mO) = .ok () W1 := r1
  obtain ⟨W2, r2, o2, e2⟩ := step o1 e1 (cmd_take 1) [100, 98, 115, 105, 122, 101] (by decide) (fnV 38)
  rw [put1] at o2
  have r2 : (Instr.mapUpdate 80 (.map (some w.heap.size)) (.string ⟨#[100, 98, 115, 105, 122, 101]⟩) (.func (.func 38) #[] #[])).run Tryz.prog W1 = .ok () W2 := r2
  obtain ⟨W3, r3, o3, e3⟩ := step o2 e2 (cmd_take 2) [100, 101, 108] (by decide) (fnV 39)
  rw [put2] at o3
  have r3 : (Instr.mapUpdate 80 (.map (some w.heap.size)) (.string ⟨#[100, 101, 108]⟩) (.func (.func 39) #[] #[])).run Tryz.prog W2 = .ok () W3 := r3
  obtain ⟨W4, r4, o4, e4⟩ := step o3 e3 (cmd_take 3) [100, 117, 109, 112] (by decide) (fnV 40)
  rw [put3] at o4
  have r4 : (Instr.mapUpdate 80 (.map (some w.heap.size)) (.string ⟨#[100, 117, 109, 112]⟩) (.func (.func 40) #[] #[])).run Tryz.prog W3 = .ok () W4 := r4
  obtain ⟨W5, r5, o5, e5⟩ := step o4 e4 (cmd_take 4) [101, 99, 104, 111] (by decide) (fnV 41)
  rw [put4] at o5
  have r5 : (Instr.mapUpdate 80 (.map (some w.heap.size)) (.string ⟨#[101, 99, 104, 111]⟩) (.func (.func 41) #[] #[])).run Tryz.prog W4 = .ok () W5 := r5
  obtain ⟨W6, r6, o6, e6⟩ := step o5 e5 (cmd_take 5) [101, 120, 105, 115, 116, 115] (by decide) (fnV 42)
  rw [put5] at o6
  have r6 : (Instr.mapUpdate 80 (.map (some w.heap.size)) (.string ⟨#[101, 120, 105, 115, 116, 115]⟩) (.func (.func 42) #[] #[])).run Tryz.prog W5 = .ok () W6 := r6
  obtain ⟨W7, r7, o7, e7⟩ := step o6 e6 (cmd_take 6) [101, 120, 112, 105, 114, 101] (by decide) (fnV 43)
  rw [put6] at o7
  have r7 : (Instr.mapUpdate 80 (.map (some w.heap.size)) (.string ⟨#[101, 120, 112, 105, 114, 101]⟩) (.func (.func 43) #[] #[])).run Tryz.prog W6 = .ok () W7 := r7
  obtain ⟨W8, r8, o8, e8⟩ := step o7 e7 (cmd_take 7) [101, 120, 112, 105, 114, 101, 97, 116] (by decide) (fnV 44)
  rw [put7] at o8
  have r8 : (Instr.mapUpdate 80 (.map (some w.heap.size)) (.string ⟨#[101, 120, 112, 105, 114, 101, 97, 116]⟩) (.func (.func 44) #[] #[])).run Tryz.prog W7 = .ok () W8 := r8
  obtain ⟨W9, r9, o9, e9⟩ := step o8 e8 (cmd_take 8) [101, 120, 112, 105, 114, 101, 116, 105, 109, 101] (by decide) (fnV 45)
  rw [put8] at o9
  have r9 : (Instr.mapUpdate 80 (.map (some w.heap.size)) (.string ⟨#[101, 120, 112, 105, 114, 101, 116, 105, 109, 101]⟩) (.func (.func 45) #[] #[])).run Tryz.prog W8 = .ok () W9 := r9
  obtain ⟨W10, r10, o10, e10⟩ := step o9 e9 (cmd_take 9) [102, 108, 117, 115, 104, 97, 108, 108] (by decide) (fnV 46)
  rw [put9] at o10
  have r10 : (Instr.mapUpdate 80 (.map (some w.heap.size)) (.string ⟨#[102, 108, 117, 115, 104, 97, 108, 108]⟩) (.func (.func 46) #[] #[])).run Tryz.prog W9 = .ok () W10 := r10
  obtain ⟨W11, r11, o11, e11⟩ := step o10 e10 (cmd_take 10) [102, 108, 117, 115, 104, 100, 98] (by decide) (fnV 46)
  rw [put10] at o11
  have r11 : (Instr.mapUpdate 80 (.map (some w.heap.size)) (.string ⟨#[102, 108, 117, 115, 104, 100, 98]⟩) (.func (.func 46) #[] #[])).run Tryz.prog W10 = .ok () W11 := r11
  obtain ⟨W12, r12, o12, e12⟩ := step o11 e11 (cmd_take 11) [107, 101, 121, 115] (by decide) (fnV 47)
  rw [put11] at o12
  have r12 : (Instr.mapUpdate 80 (.map (some w.heap.size)) (.string ⟨#[107, 101, 121, 115]⟩) (.func (.func 47) #[] #[])).run Tryz.prog W11 = .ok () W12 := r12
  obtain ⟨W13, r13, o13, e13⟩ := step o12 e12 (cmd_take 12) [112, 101, 114, 115, 105, 115, 116] (by decide) (fnV 48)
  rw [put12] at o13
  have r13 : (Instr.mapUpdate 80 (.map (some w.heap.size)) (.string ⟨#[112, 101, 114, 115, 105, 115, 116]⟩) (.func (.func 48) #[] #[])).run Tryz.prog W12 = .ok () W13 := r13
  obtain ⟨W14, r14, o14, e14⟩ := step o13 e13 (cmd_take 13) [112, 101, 120, 112, 105, 114, 101] (by decide) (fnV 49)
  rw [put13] at o14
  have r14 : (Instr.mapUpdate 80 (.map (some w.heap.size)) (.string ⟨#[112, 101, 120, 112, 105, 114, 101]⟩) (.func (.func 49) #[] #[])).run Tryz.prog W13 = .ok () W14 := r14
  obtain ⟨W15, r15, o15, e15⟩ := step o14 e14 (cmd_take 14) [112, 101, 120, 112, 105, 114, 101, 97, 116] (by decide) (fnV 50)
  rw [put14] at o15
  have r15 : (Instr.mapUpdate 80 (.map (some w.heap.size)) (.string ⟨#[112, 101, 120, 112, 105, 114, 101, 97, 116]⟩) (.func (.func 50) #[] #[])).run Tryz.prog W14 = .ok () W15 := r15
  obtain ⟨W16, r16, o16, e16⟩ := step o15 e15 (cmd_take 15) [112, 101, 120, 112, 105, 114, 101, 116, 105, 109, 101] (by decide) (fnV 51)
  rw [put15] at o16
  have r16 : (Instr.mapUpdate 80 (.map (some w.heap.size)) (.string ⟨#[112, 101, 120, 112, 105, 114, 101, 116, 105, 109, 101]⟩) (.func (.func 51) #[] #[])).run Tryz.prog W15 = .ok () W16 := r16
  obtain ⟨W17, r17, o17, e17⟩ := step o16 e16 (cmd_take 16) [112, 105, 110, 103] (by decide) (fnV 52)
  rw [put16] at o17
  have r17 : (Instr.mapUpdate 80 (.map (some w.heap.size)) (.string ⟨#[112, 105, 110, 103]⟩) (.func (.func 52) #[] #[])).run Tryz.prog W16 = .ok () W17 := r17
  obtain ⟨W18, r18, o18, e18⟩ := step o17 e17 (cmd_take 17) [112, 116, 116, 108] (by decide) (fnV 53)
  rw [put17] at o18
  have r18 : (Instr.mapUpdate 80 (.map (some w.heap.size)) (.string ⟨#[112, 116, 116, 108]⟩) (.func (.func 53) #[] #[])).run Tryz.prog W17 = .ok () W18 := r18
  obtain ⟨W19, r19, o19, e19⟩ := step o18 e18 (cmd_take 18) [114, 101, 110, 97, 109, 101] (by decide) (fnV 54)
  rw [put18] at o19
  have r19 : (Instr.mapUpdate 80 (.map (some w.heap.size)) (.string ⟨#[114, 101, 110, 97, 109, 101]⟩) (.func (.func 54) #[] #[])).run Tryz.prog W18 = .ok () W19 := r19
  obtain ⟨W20, r20, o20, e20⟩ := step o19 e19 (cmd_take 19) [114, 101, 110, 97, 109, 101, 110, 120] (by decide) (fnV 55)
  rw [put19] at o20
  have r20 : (Instr.mapUpdate 80 (.map (some w.heap.size)) (.string ⟨#[114, 101, 110, 97, 109, 101, 110, 120]⟩) (.func (.func 55) #[] #[])).run Tryz.prog W19 = .ok () W20 := r20
  obtain ⟨W21, r21, o21, e21⟩ := step o20 e20 (cmd_take 20) [114, 101, 115, 116, 111, 114, 101] (by decide) (fnV 56)
  rw [put20] at o21
  have r21 : (Instr.mapUpdate 80 (.map (some w.heap.size)) (.string ⟨#[114, 101, 115, 116, 111, 114, 101]⟩) (.func (.func 56) #[] #[])).run Tryz.prog W20 = .ok () W21 := r21
  obtain ⟨W22, r22, o22, e22⟩ := step o21 e21 (cmd_take 21) [115, 99, 97, 110] (by decide) (fnV 57)
  rw [put21] at o22
  have r22 : (Instr.mapUpdate 80 (.map (some w.heap.size)) (.string ⟨#[115, 99, 97, 110]⟩) (.func (.func 57) #[] #[])).run Tryz.prog W21 = .ok () W22 := r22
  obtain ⟨W23, r23, o23, e23⟩ := step o22 e22 (cmd_take 22) [116, 116, 108] (by decide) (fnV 58)
  rw [put22] at o23
  have r23 : (Instr.mapUpdate 80 (.map (some w.heap.size)) (.string ⟨#[116, 116, 108]⟩) (.func (.func 58) #[] #[])).run Tryz.prog W22 = .ok () W23 := r23
  obtain ⟨W24, r24, o24, e24⟩ := step o23 e23 (cmd_take 23) [116, 121, 112, 101] (by decide) (fnV 59)
  rw [put23] at o24
  have r24 : (Instr.mapUpdate 80 (.map (some w.heap.size)) (.string ⟨#[116, 121, 112, 101]⟩) (.func (.func 59) #[] #[])).run Tryz.prog W23 = .ok () W24 := r24
  obtain ⟨W25, r25, o25, e25⟩ := step o24 e24 (cmd_take 24) [117, 110, 108, 105, 110, 107] (by decide) (fnV 39)
  rw [put24] at o25
  have r25 : (Instr.mapUpdate 80 (.map (some w.heap.size)) (.string ⟨#[117, 110, 108, 105, 110, 107]⟩) (.func (.func 39) #[] #[])).run Tryz.prog W24 = .ok () W25 := r25
  have hfin : Below w.heap.size w W25 := (alb w mO).trans (e25.below (base := w.heap.size) (by simp) (fun k hk => by have hk : k = w.heap.size := hk; omega))
  have HF := hid_of hfin
  have HO := hid_of o25
  clear hfin o0 o1 o2 o3 o4 o5 o6 o7 o8 o9 o10 o11 o12 o13 o14 o15 o16 o17 o18 o19 o20 o21 o22 o23 o24 o25 e0 e1 e2 e3 e4 e5 e6 e7 e8 e9 e10 e11 e12 e13 e14 e15 e16 e17 e18 e19 e20 e21 e22 e23 e24 e25
  have hmm := @run_makeMap Tryz.prog
  go_enter Tryz.func29, Tryz.ntmps29
  go_wp2_with fail
  go_ret
  exact ⟨rfl, HO.out, HF.out⟩
end Go.Proofs.YtminfpkigenahaaGreatDoor.KMap
end
section
namespace Go.Proofs.YtminfpkigenahaaGreatDoor.Tab
open Go
set_option linter.unusedVariables false
set_option linter.unusedSimpArgs false
abbrev Bs := List UInt8
/- a row of the program: name, arity, part, first, last, step -/
structure Rw where
  name : Bs
  arity : Int
  part : Int
  first : Int
  last : Int
  step : Int
  deriving DecidableEq
/- a row as it is told -/
structure Sc where
  name : Bs
  arity : Int
  wr : Bool
  ct : Bool
  first : Int
  last : Int
  step : Int
  deriving DecidableEq
def spec (r : Rw) : Sc := ⟨r.name, r.arity, r.part == 1, r.part == 2, r.first, r.last, r.step⟩
def controlRows : List Rw := [
  ⟨[100, 105, 115, 99, 97, 114, 100], 1, 2, 0, 0, 0⟩,
  ⟨[101, 120, 101, 99], 1, 2, 0, 0, 0⟩,
  ⟨[109, 117, 108, 116, 105], 1, 2, 0, 0, 0⟩,
  ⟨[113, 117, 105, 116], 1, 2, 0, 0, 0⟩,
  ⟨[114, 101, 115, 101, 116], 1, 2, 0, 0, 0⟩,
  ⟨[117, 110, 119, 97, 116, 99, 104], 1, 2, 0, 0, 0⟩,
  ⟨[119, 97, 116, 99, 104], -2, 2, 1, -1, 1⟩]
def stringRows : List Rw := [
  ⟨[97, 112, 112, 101, 110, 100], 3, 1, 1, 1, 1⟩,
  ⟨[98, 105, 116, 99, 111, 117, 110, 116], -2, 0, 1, 1, 1⟩,
  ⟨[98, 105, 116, 111, 112], -4, 1, 2, -1, 1⟩,
  ⟨[98, 105, 116, 112, 111, 115], -3, 0, 1, 1, 1⟩,
  ⟨[100, 101, 99, 114], 2, 1, 1, 1, 1⟩,
  ⟨[100, 101, 99, 114, 98, 121], 3, 1, 1, 1, 1⟩,
  ⟨[103, 101, 116], 2, 0, 1, 1, 1⟩,
  ⟨[103, 101, 116, 98, 105, 116], 3, 0, 1, 1, 1⟩,
  ⟨[103, 101, 116, 100, 101, 108], 2, 1, 1, 1, 1⟩,
  ⟨[103, 101, 116, 101, 120], -2, 1, 1, 1, 1⟩,
  ⟨[103, 101, 116, 114, 97, 110, 103, 101], 4, 0, 1, 1, 1⟩,
  ⟨[103, 101, 116, 115, 101, 116], 3, 1, 1, 1, 1⟩,
  ⟨[105, 110, 99, 114], 2, 1, 1, 1, 1⟩,
  ⟨[105, 110, 99, 114, 98, 121], 3, 1, 1, 1, 1⟩,
  ⟨[109, 103, 101, 116], -2, 0, 1, -1, 1⟩,
  ⟨[109, 115, 101, 116], -3, 1, 1, -1, 2⟩,
  ⟨[109, 115, 101, 116, 110, 120], -3, 1, 1, -1, 2⟩,
  ⟨[112, 115, 101, 116, 101, 120], 4, 1, 1, 1, 1⟩,
  ⟨[115, 101, 116], -3, 1, 1, 1, 1⟩,
  ⟨[115, 101, 116, 98, 105, 116], 4, 1, 1, 1, 1⟩,
  ⟨[115, 101, 116, 101, 120], 4, 1, 1, 1, 1⟩,
  ⟨[115, 101, 116, 110, 120], 3, 1, 1, 1, 1⟩,
  ⟨[115, 101, 116, 114, 97, 110, 103, 101], 4, 1, 1, 1, 1⟩,
  ⟨[115, 116, 114, 108, 101, 110], 2, 0, 1, 1, 1⟩]
def keyRows : List Rw := [
  ⟨[99, 111, 112, 121], -3, 1, 1, 2, 1⟩,
  ⟨[100, 98, 115, 105, 122, 101], 1, 0, 0, 0, 0⟩,
  ⟨[100, 101, 108], -2, 1, 1, -1, 1⟩,
  ⟨[100, 117, 109, 112], 2, 0, 1, 1, 1⟩,
  ⟨[101, 99, 104, 111], 2, 0, 0, 0, 0⟩,
  ⟨[101, 120, 105, 115, 116, 115], -2, 0, 1, -1, 1⟩,
  ⟨[101, 120, 112, 105, 114, 101], -3, 1, 1, 1, 1⟩,
  ⟨[101, 120, 112, 105, 114, 101, 97, 116], -3, 1, 1, 1, 1⟩,
  ⟨[101, 120, 112, 105, 114, 101, 116, 105, 109, 101], 2, 0, 1, 1, 1⟩,
  ⟨[102, 108, 117, 115, 104, 97, 108, 108], 1, 1, 0, 0, 0⟩,
  ⟨[102, 108, 117, 115, 104, 100, 98], 1, 1, 0, 0, 0⟩,
  ⟨[107, 101, 121, 115], 2, 0, 0, 0, 0⟩,
  ⟨[112, 101, 114, 115, 105, 115, 116], 2, 1, 1, 1, 1⟩,
  ⟨[112, 101, 120, 112, 105, 114, 101], -3, 1, 1, 1, 1⟩,
  ⟨[112, 101, 120, 112, 105, 114, 101, 97, 116], -3, 1, 1, 1, 1⟩,
  ⟨[112, 101, 120, 112, 105, 114, 101, 116, 105, 109, 101], 2, 0, 1, 1, 1⟩,
  ⟨[112, 105, 110, 103], -1, 0, 0, 0, 0⟩,
  ⟨[112, 116, 116, 108], 2, 0, 1, 1, 1⟩,
  ⟨[114, 101, 110, 97, 109, 101], 3, 1, 1, 2, 1⟩,
  ⟨[114, 101, 110, 97, 109, 101, 110, 120], 3, 1, 1, 2, 1⟩,
  ⟨[114, 101, 115, 116, 111, 114, 101], -4, 1, 1, 1, 1⟩,
  ⟨[115, 99, 97, 110], -2, 0, 0, 0, 0⟩,
  ⟨[116, 116, 108], 2, 0, 1, 1, 1⟩,
  ⟨[116, 121, 112, 101], 2, 0, 1, 1, 1⟩,
  ⟨[117, 110, 108, 105, 110, 107], -2, 1, 1, -1, 1⟩]
def listRows : List Rw := [
  ⟨[108, 105, 110, 100, 101, 120], 3, 0, 1, 1, 1⟩,
  ⟨[108, 105, 110, 115, 101, 114, 116], 5, 1, 1, 1, 1⟩,
  ⟨[108, 108, 101, 110], 2, 0, 1, 1, 1⟩,
  ⟨[108, 109, 111, 118, 101], 5, 1, 1, 2, 1⟩,
  ⟨[108, 112, 111, 112], -2, 1, 1, 1, 1⟩,
  ⟨[108, 112, 111, 115], -3, 0, 1, 1, 1⟩,
  ⟨[108, 112, 117, 115, 104], -3, 1, 1, 1, 1⟩,
  ⟨[108, 112, 117, 115, 104, 120], -3, 1, 1, 1, 1⟩,
  ⟨[108, 114, 97, 110, 103, 101], 4, 0, 1, 1, 1⟩,
  ⟨[108, 114, 101, 109], 4, 1, 1, 1, 1⟩,
  ⟨[108, 115, 101, 116], 4, 1, 1, 1, 1⟩,
  ⟨[108, 116, 114, 105, 109], 4, 1, 1, 1, 1⟩,
  ⟨[114, 112, 111, 112], -2, 1, 1, 1, 1⟩,
  ⟨[114, 112, 111, 112, 108, 112, 117, 115, 104], 3, 1, 1, 2, 1⟩,
  ⟨[114, 112, 117, 115, 104], -3, 1, 1, 1, 1⟩,
  ⟨[114, 112, 117, 115, 104, 120], -3, 1, 1, 1, 1⟩]
def hashRows : List Rw := [
  ⟨[104, 100, 101, 108], -3, 1, 1, 1, 1⟩,
  ⟨[104, 101, 120, 105, 115, 116, 115], 3, 0, 1, 1, 1⟩,
  ⟨[104, 103, 101, 116], 3, 0, 1, 1, 1⟩,
  ⟨[104, 103, 101, 116, 97, 108, 108], 2, 0, 1, 1, 1⟩,
  ⟨[104, 105, 110, 99, 114, 98, 121], 4, 1, 1, 1, 1⟩,
  ⟨[104, 107, 101, 121, 115], 2, 0, 1, 1, 1⟩,
  ⟨[104, 108, 101, 110], 2, 0, 1, 1, 1⟩,
  ⟨[104, 109, 103, 101, 116], -3, 0, 1, 1, 1⟩,
  ⟨[104, 109, 115, 101, 116], -4, 1, 1, 1, 1⟩,
  ⟨[104, 115, 99, 97, 110], -3, 0, 1, 1, 1⟩,
  ⟨[104, 115, 101, 116], -4, 1, 1, 1, 1⟩,
  ⟨[104, 115, 101, 116, 110, 120], 4, 1, 1, 1, 1⟩,
  ⟨[104, 115, 116, 114, 108, 101, 110], 3, 0, 1, 1, 1⟩,
  ⟨[104, 118, 97, 108, 115], 2, 0, 1, 1, 1⟩]
def setRows : List Rw := [
  ⟨[115, 97, 100, 100], -3, 1, 1, 1, 1⟩,
  ⟨[115, 99, 97, 114, 100], 2, 0, 1, 1, 1⟩,
  ⟨[115, 100, 105, 102, 102], -2, 0, 1, -1, 1⟩,
  ⟨[115, 100, 105, 102, 102, 115, 116, 111, 114, 101], -3, 1, 1, -1, 1⟩,
  ⟨[115, 105, 110, 116, 101, 114], -2, 0, 1, -1, 1⟩,
  ⟨[115, 105, 110, 116, 101, 114, 115, 116, 111, 114, 101], -3, 1, 1, -1, 1⟩,
  ⟨[115, 105, 115, 109, 101, 109, 98, 101, 114], 3, 0, 1, 1, 1⟩,
  ⟨[115, 109, 101, 109, 98, 101, 114, 115], 2, 0, 1, 1, 1⟩,
  ⟨[115, 109, 105, 115, 109, 101, 109, 98, 101, 114], -3, 0, 1, 1, 1⟩,
  ⟨[115, 109, 111, 118, 101], 4, 1, 1, 2, 1⟩,
  ⟨[115, 112, 111, 112], -2, 1, 1, 1, 1⟩,
  ⟨[115, 114, 101, 109], -3, 1, 1, 1, 1⟩,
  ⟨[115, 115, 99, 97, 110], -3, 0, 1, 1, 1⟩,
  ⟨[115, 117, 110, 105, 111, 110], -2, 0, 1, -1, 1⟩,
  ⟨[115, 117, 110, 105, 111, 110, 115, 116, 111, 114, 101], -3, 1, 1, -1, 1⟩]
def scoreRows : List Rw := [
  ⟨[122, 97, 100, 100], -4, 1, 1, 1, 1⟩,
  ⟨[122, 99, 97, 114, 100], 2, 0, 1, 1, 1⟩,
  ⟨[122, 99, 111, 117, 110, 116], 4, 0, 1, 1, 1⟩,
  ⟨[122, 105, 110, 99, 114, 98, 121], 4, 1, 1, 1, 1⟩,
  ⟨[122, 108, 101, 120, 99, 111, 117, 110, 116], 4, 0, 1, 1, 1⟩,
  ⟨[122, 109, 115, 99, 111, 114, 101], -3, 0, 1, 1, 1⟩,
  ⟨[122, 112, 111, 112, 109, 97, 120], -2, 1, 1, 1, 1⟩,
  ⟨[122, 112, 111, 112, 109, 105, 110], -2, 1, 1, 1, 1⟩,
  ⟨[122, 114, 97, 110, 103, 101], -4, 0, 1, 1, 1⟩,
  ⟨[122, 114, 97, 110, 107], 3, 0, 1, 1, 1⟩,
  ⟨[122, 114, 101, 109], -3, 1, 1, 1, 1⟩,
  ⟨[122, 114, 101, 109, 114, 97, 110, 103, 101, 98, 121, 108, 101, 120], 4, 1, 1, 1, 1⟩,
  ⟨[122, 114, 101, 109, 114, 97, 110, 103, 101, 98, 121, 114, 97, 110, 107], 4, 1, 1, 1, 1⟩,
  ⟨[122, 114, 101, 109, 114, 97, 110, 103, 101, 98, 121, 115, 99, 111, 114, 101], 4, 1, 1, 1, 1⟩,
  ⟨[122, 114, 101, 118, 114, 97, 110, 107], 3, 0, 1, 1, 1⟩,
  ⟨[122, 115, 99, 97, 110], -3, 0, 1, 1, 1⟩,
  ⟨[122, 115, 99, 111, 114, 101], 3, 0, 1, 1, 1⟩]
def docRows : List Sc := [
  ⟨[97, 112, 112, 101, 110, 100], 3, true, false, 1, 1, 1⟩,
  ⟨[98, 105, 116, 99, 111, 117, 110, 116], -2, false, false, 1, 1, 1⟩,
  ⟨[98, 105, 116, 111, 112], -4, true, false, 2, -1, 1⟩,
  ⟨[98, 105, 116, 112, 111, 115], -3, false, false, 1, 1, 1⟩,
  ⟨[99, 111, 112, 121], -3, true, false, 1, 2, 1⟩,
  ⟨[100, 98, 115, 105, 122, 101], 1, false, false, 0, 0, 0⟩,
  ⟨[100, 101, 99, 114], 2, true, false, 1, 1, 1⟩,
  ⟨[100, 101, 99, 114, 98, 121], 3, true, false, 1, 1, 1⟩,
  ⟨[100, 101, 108], -2, true, false, 1, -1, 1⟩,
  ⟨[100, 105, 115, 99, 97, 114, 100], 1, false, true, 0, 0, 0⟩,
  ⟨[100, 117, 109, 112], 2, false, false, 1, 1, 1⟩,
  ⟨[101, 99, 104, 111], 2, false, false, 0, 0, 0⟩,
  ⟨[101, 120, 101, 99], 1, false, true, 0, 0, 0⟩,
  ⟨[101, 120, 105, 115, 116, 115], -2, false, false, 1, -1, 1⟩,
  ⟨[101, 120, 112, 105, 114, 101], -3, true, false, 1, 1, 1⟩,
  ⟨[101, 120, 112, 105, 114, 101, 97, 116], -3, true, false, 1, 1, 1⟩,
  ⟨[101, 120, 112, 105, 114, 101, 116, 105, 109, 101], 2, false, false, 1, 1, 1⟩,
  ⟨[102, 108, 117, 115, 104, 97, 108, 108], 1, true, false, 0, 0, 0⟩,
  ⟨[102, 108, 117, 115, 104, 100, 98], 1, true, false, 0, 0, 0⟩,
  ⟨[103, 101, 116], 2, false, false, 1, 1, 1⟩,
  ⟨[103, 101, 116, 98, 105, 116], 3, false, false, 1, 1, 1⟩,
  ⟨[103, 101, 116, 100, 101, 108], 2, true, false, 1, 1, 1⟩,
  ⟨[103, 101, 116, 101, 120], -2, true, false, 1, 1, 1⟩,
  ⟨[103, 101, 116, 114, 97, 110, 103, 101], 4, false, false, 1, 1, 1⟩,
  ⟨[103, 101, 116, 115, 101, 116], 3, true, false, 1, 1, 1⟩,
  ⟨[104, 100, 101, 108], -3, true, false, 1, 1, 1⟩,
  ⟨[104, 101, 120, 105, 115, 116, 115], 3, false, false, 1, 1, 1⟩,
  ⟨[104, 103, 101, 116], 3, false, false, 1, 1, 1⟩,
  ⟨[104, 103, 101, 116, 97, 108, 108], 2, false, false, 1, 1, 1⟩,
  ⟨[104, 105, 110, 99, 114, 98, 121], 4, true, false, 1, 1, 1⟩,
  ⟨[104, 107, 101, 121, 115], 2, false, false, 1, 1, 1⟩,
  ⟨[104, 108, 101, 110], 2, false, false, 1, 1, 1⟩,
  ⟨[104, 109, 103, 101, 116], -3, false, false, 1, 1, 1⟩,
  ⟨[104, 109, 115, 101, 116], -4, true, false, 1, 1, 1⟩,
  ⟨[104, 115, 99, 97, 110], -3, false, false, 1, 1, 1⟩,
  ⟨[104, 115, 101, 116], -4, true, false, 1, 1, 1⟩,
  ⟨[104, 115, 101, 116, 110, 120], 4, true, false, 1, 1, 1⟩,
  ⟨[104, 115, 116, 114, 108, 101, 110], 3, false, false, 1, 1, 1⟩,
  ⟨[104, 118, 97, 108, 115], 2, false, false, 1, 1, 1⟩,
  ⟨[105, 110, 99, 114], 2, true, false, 1, 1, 1⟩,
  ⟨[105, 110, 99, 114, 98, 121], 3, true, false, 1, 1, 1⟩,
  ⟨[107, 101, 121, 115], 2, false, false, 0, 0, 0⟩,
  ⟨[108, 105, 110, 100, 101, 120], 3, false, false, 1, 1, 1⟩,
  ⟨[108, 105, 110, 115, 101, 114, 116], 5, true, false, 1, 1, 1⟩,
  ⟨[108, 108, 101, 110], 2, false, false, 1, 1, 1⟩,
  ⟨[108, 109, 111, 118, 101], 5, true, false, 1, 2, 1⟩,
  ⟨[108, 112, 111, 112], -2, true, false, 1, 1, 1⟩,
  ⟨[108, 112, 111, 115], -3, false, false, 1, 1, 1⟩,
  ⟨[108, 112, 117, 115, 104], -3, true, false, 1, 1, 1⟩,
  ⟨[108, 112, 117, 115, 104, 120], -3, true, false, 1, 1, 1⟩,
  ⟨[108, 114, 97, 110, 103, 101], 4, false, false, 1, 1, 1⟩,
  ⟨[108, 114, 101, 109], 4, true, false, 1, 1, 1⟩,
  ⟨[108, 115, 101, 116], 4, true, false, 1, 1, 1⟩,
  ⟨[108, 116, 114, 105, 109], 4, true, false, 1, 1, 1⟩,
  ⟨[109, 103, 101, 116], -2, false, false, 1, -1, 1⟩,
  ⟨[109, 115, 101, 116], -3, true, false, 1, -1, 2⟩,
  ⟨[109, 115, 101, 116, 110, 120], -3, true, false, 1, -1, 2⟩,
  ⟨[109, 117, 108, 116, 105], 1, false, true, 0, 0, 0⟩,
  ⟨[112, 101, 114, 115, 105, 115, 116], 2, true, false, 1, 1, 1⟩,
  ⟨[112, 101, 120, 112, 105, 114, 101], -3, true, false, 1, 1, 1⟩,
  ⟨[112, 101, 120, 112, 105, 114, 101, 97, 116], -3, true, false, 1, 1, 1⟩,
  ⟨[112, 101, 120, 112, 105, 114, 101, 116, 105, 109, 101], 2, false, false, 1, 1, 1⟩,
  ⟨[112, 105, 110, 103], -1, false, false, 0, 0, 0⟩,
  ⟨[112, 115, 101, 116, 101, 120], 4, true, false, 1, 1, 1⟩,
  ⟨[112, 116, 116, 108], 2, false, false, 1, 1, 1⟩,
  ⟨[113, 117, 105, 116], 1, false, true, 0, 0, 0⟩,
  ⟨[114, 101, 110, 97, 109, 101], 3, true, false, 1, 2, 1⟩,
  ⟨[114, 101, 110, 97, 109, 101, 110, 120], 3, true, false, 1, 2, 1⟩,
  ⟨[114, 101, 115, 101, 116], 1, false, true, 0, 0, 0⟩,
  ⟨[114, 101, 115, 116, 111, 114, 101], -4, true, false, 1, 1, 1⟩,
  ⟨[114, 112, 111, 112], -2, true, false, 1, 1, 1⟩,
  ⟨[114, 112, 111, 112, 108, 112, 117, 115, 104], 3, true, false, 1, 2, 1⟩,
  ⟨[114, 112, 117, 115, 104], -3, true, false, 1, 1, 1⟩,
  ⟨[114, 112, 117, 115, 104, 120], -3, true, false, 1, 1, 1⟩,
  ⟨[115, 97, 100, 100], -3, true, false, 1, 1, 1⟩,
  ⟨[115, 99, 97, 110], -2, false, false, 0, 0, 0⟩,
  ⟨[115, 99, 97, 114, 100], 2, false, false, 1, 1, 1⟩,
  ⟨[115, 100, 105, 102, 102], -2, false, false, 1, -1, 1⟩,
  ⟨[115, 100, 105, 102, 102, 115, 116, 111, 114, 101], -3, true, false, 1, -1, 1⟩,
  ⟨[115, 101, 116], -3, true, false, 1, 1, 1⟩,
  ⟨[115, 101, 116, 98, 105, 116], 4, true, false, 1, 1, 1⟩,
  ⟨[115, 101, 116, 101, 120], 4, true, false, 1, 1, 1⟩,
  ⟨[115, 101, 116, 110, 120], 3, true, false, 1, 1, 1⟩,
  ⟨[115, 101, 116, 114, 97, 110, 103, 101], 4, true, false, 1, 1, 1⟩,
  ⟨[115, 105, 110, 116, 101, 114], -2, false, false, 1, -1, 1⟩,
  ⟨[115, 105, 110, 116, 101, 114, 115, 116, 111, 114, 101], -3, true, false, 1, -1, 1⟩,
  ⟨[115, 105, 115, 109, 101, 109, 98, 101, 114], 3, false, false, 1, 1, 1⟩,
  ⟨[115, 109, 101, 109, 98, 101, 114, 115], 2, false, false, 1, 1, 1⟩,
  ⟨[115, 109, 105, 115, 109, 101, 109, 98, 101, 114], -3, false, false, 1, 1, 1⟩,
  ⟨[115, 109, 111, 118, 101], 4, true, false, 1, 2, 1⟩,
  ⟨[115, 112, 111, 112], -2, true, false, 1, 1, 1⟩,
  ⟨[115, 114, 101, 109], -3, true, false, 1, 1, 1⟩,
  ⟨[115, 115, 99, 97, 110], -3, false, false, 1, 1, 1⟩,
  ⟨[115, 116, 114, 108, 101, 110], 2, false, false, 1, 1, 1⟩,
  ⟨[115, 117, 110, 105, 111, 110], -2, false, false, 1, -1, 1⟩,
  ⟨[115, 117, 110, 105, 111, 110, 115, 116, 111, 114, 101], -3, true, false, 1, -1, 1⟩,
  ⟨[116, 116, 108], 2, false, false, 1, 1, 1⟩,
  ⟨[116, 121, 112, 101], 2, false, false, 1, 1, 1⟩,
  ⟨[117, 110, 108, 105, 110, 107], -2, true, false, 1, -1, 1⟩,
  ⟨[117, 110, 119, 97, 116, 99, 104], 1, false, true, 0, 0, 0⟩,
  ⟨[119, 97, 116, 99, 104], -2, false, true, 1, -1, 1⟩,
  ⟨[122, 97, 100, 100], -4, true, false, 1, 1, 1⟩,
  ⟨[122, 99, 97, 114, 100], 2, false, false, 1, 1, 1⟩,
  ⟨[122, 99, 111, 117, 110, 116], 4, false, false, 1, 1, 1⟩,
  ⟨[122, 105, 110, 99, 114, 98, 121], 4, true, false, 1, 1, 1⟩,
  ⟨[122, 108, 101, 120, 99, 111, 117, 110, 116], 4, false, false, 1, 1, 1⟩,
  ⟨[122, 109, 115, 99, 111, 114, 101], -3, false, false, 1, 1, 1⟩,
  ⟨[122, 112, 111, 112, 109, 97, 120], -2, true, false, 1, 1, 1⟩,
  ⟨[122, 112, 111, 112, 109, 105, 110], -2, true, false, 1, 1, 1⟩,
  ⟨[122, 114, 97, 110, 103, 101], -4, false, false, 1, 1, 1⟩,
  ⟨[122, 114, 97, 110, 107], 3, false, false, 1, 1, 1⟩,
  ⟨[122, 114, 101, 109], -3, true, false, 1, 1, 1⟩,
  ⟨[122, 114, 101, 109, 114, 97, 110, 103, 101, 98, 121, 108, 101, 120], 4, true, false, 1, 1, 1⟩,
  ⟨[122, 114, 101, 109, 114, 97, 110, 103, 101, 98, 121, 114, 97, 110, 107], 4, true, false, 1, 1, 1⟩,
  ⟨[122, 114, 101, 109, 114, 97, 110, 103, 101, 98, 121, 115, 99, 111, 114, 101], 4, true, false, 1, 1, 1⟩,
  ⟨[122, 114, 101, 118, 114, 97, 110, 107], 3, false, false, 1, 1, 1⟩,
  ⟨[122, 115, 99, 97, 110], -3, false, false, 1, 1, 1⟩,
  ⟨[122, 115, 99, 111, 114, 101], 3, false, false, 1, 1, 1⟩]
def allRows : List Rw := controlRows ++ stringRows ++ keyRows ++ listRows ++ hashRows ++ setRows ++ scoreRows
def findR (s : Bs) : Option Rw := allRows.find? (fun r => r.name == s)
def findS (s : Bs) : Option Sc := docRows.find? (fun r => r.name == s)
theorem all_len : allRows.length = 118 := by decide +kernel
theorem doc_len : docRows.length = 118 := by decide +kernel
def names : List Bs := docRows.map (·.name)
theorem names_ok : names.all (fun s => decide ((findR s).map spec = findS s)) = true := by decide +kernel
theorem all_in : allRows.all (fun r => names.contains r.name) = true := by decide +kernel
theorem find_same (s : Bs) : (findR s).map spec = findS s := by
  by_cases h : s ∈ names
  · exact of_decide_eq_true (List.all_eq_true.1 names_ok s h)
  · have h1 : findR s = none := by
      unfold findR
      rw [List.find?_eq_none]
      intro r hr e
      have := List.all_eq_true.1 all_in r hr
      rw [List.contains_iff_mem] at this
      rw [eq_of_beq e] at this
      exact h this
    have h2 : findS s = none := by
      unfold findS
      rw [List.find?_eq_none]
      intro r hr e
      exact h (List.mem_map.2 ⟨r, hr, eq_of_beq e⟩)
    rw [h1, h2]
    rfl
def okB (r : Sc) : Bool := decide (-5 ≤ r.arity ∧ r.arity ≤ 5 ∧ r.arity ≠ 0 ∧ 0 ≤ r.first ∧ r.first ≤ 2 ∧ -1 ≤ r.last ∧ r.last ≤ 2 ∧ 0 ≤ r.step ∧ r.step ≤ 2 ∧ r.name.length ≤ 32 ∧ 0 < r.name.length)
theorem doc_ok : docRows.all okB = true := by decide +kernel
theorem all_ok : allRows.all (fun r => okB (spec r)) = true := by decide +kernel
end Go.Proofs.YtminfpkigenahaaGreatDoor.Tab
end
section
namespace Go.Proofs.YtminfpkigenahaaGreatDoor.Run
open Go Go.RowKit
set_option linter.unusedVariables false
set_option linter.unusedSimpArgs false
def runTo (P : Program) (ops : Array Oper) : List Oper → Act → World → Option (Act × World)
  | [], a, w => some (a, w)
  | o :: r, a, w =>
    if Region.wanted o (yielded ops a.tmps) then
      match (execOp a.eval o).run P w with
      | .ok (.value v) w' => runTo P ops r (a.put o.dst v) w'
      | _ => none
    else runTo P ops r (a.put o.dst undef) w
theorem wpList_run {P : Program} {ops : Array Oper} {Q : Exit → Act → World → Prop} : ∀ (l r : List Oper) {a a' : Act} {w w' : World}, runTo P ops l a w = some (a', w') → wpList P ops Q r a' w' → wpList P ops Q (l ++ r) a w
  | [], r, a, a', w, w', h, k => by
    simp only [runTo, Option.some.injEq, Prod.mk.injEq] at h
    obtain ⟨rfl, rfl⟩ := h
    exact k
  | o :: l, r, a, a', w, w', h, k => by
    unfold runTo at h
    show wpList P ops Q (o :: (l ++ r)) a w
    unfold wpList
    split at h
    · rename_i hw
      rw [if_pos hw]
      refine .inl ?_
      unfold Oper.wp
      split at h
      · rename_i v w1 e
        rw [e]
        exact wpList_run l r h k
      · cases h
    · rename_i hw
      rw [if_neg hw]
      exact wpList_run l r h k
theorem wp_run {P : Program} {Q : Exit → Act → World → Prop} {id : Nat} {l r : List Oper} {a a' : Act} {w w' : World} (h : runTo P (l ++ r).toArray l a w = some (a', w')) (k : wpList P (l ++ r).toArray Q r a' w') : (Code.region id (l ++ r).toArray false).wp P Q a w :=
  wp_region_lit (wpList_run l r h k)
def runRet (P : Program) : Code → Act → World → Option (Act × World)
  | .seq (.region _ ops false) y, a, w =>
    match runTo P ops ops.toList a w with
    | some (a', w') => runRet P y a' w'
    | none => none
  | .ret, a, w => some (a, w)
  | _, _, _ => none
theorem wp_ret_run {P : Program} {Q : Exit → Act → World → Prop} : ∀ (c : Code) {a a' : Act} {w w' : World}, runRet P c a w = some (a', w') → Q .ret a' w' → c.wp P Q a w := by
  intro c a a' w w' h k
  induction c generalizing a w with
  | ret =>
    simp only [runRet, Option.some.injEq, Prod.mk.injEq] at h
    obtain ⟨rfl, rfl⟩ := h
    exact wp_ret k
  | seq x y _ ih =>
    cases x with
    | region id ops d =>
      cases d with
      | true => simp [runRet] at h
      | false =>
        simp only [runRet] at h
        split at h
        · rename_i a1 w1 e
          refine wp_seq (wp_region_list ?_)
          have := wpList_run (P := P) (ops := ops) (Q := Exit.then (y.wp P Q) Q) ops.toList [] e (ih h)
          rwa [List.append_nil] at this
        · cases h
    | _ => simp [runRet] at h
  | _ => simp [runRet] at h
theorem calls_run {P : Program} {f : FuncId} {fn : Func} {c : Code} {args : Array Value} {w w' : World} {a' : Act} {v : Value} {R : Ending → World → Prop} (hf : P.funcs[f]? = some fn) (hb : fn.body = some c)
    (h : runRet P c { tmps := args ++ Array.replicate (fn.ntmps - args.size) undef, defers := [] } w = some (a', w')) (hd : a'.defers = []) (hr : (results fn a'.tmps).run P w' = .ok v w') (hR : R (.returned v) w') : Calls P f args w R :=
  calls_of_wp hf hb (wp_ret_run c h ⟨hd, v, hr, hR⟩)
end Go.Proofs.YtminfpkigenahaaGreatDoor.Run
end
section
namespace Go.Proofs.YtminfpkigenahaaGreatDoor.Lit
open Go Go.RowKit
open Go.Proofs.YtminfpkigenahaaGreatDoor.Run
set_option linter.unusedVariables false
set_option linter.unusedSimpArgs false
noncomputable def opsOf (c : Code) (k : Nat) : List Oper := match c, k with
  | .seq (.region _ ops _) _, 0 => ops.toList
  | .seq _ y, k + 1 => opsOf y k
  | _, _ => []
noncomputable def ops (f : Func) (k : Nat) : List Oper := opsOf (f.body.getD .skip) k
noncomputable def operNo (f : Func) (k i : Nat) : Oper := ((ops f k).drop i).headD { dst := none, op := .assign (.const undef), type := 0, pos := "", after := #[], guard := none }
def parts (n d : Nat) : List (Nat × Operand) := (List.range n).map fun i => (i, Operand.tmp (i + d))
theorem lit_wp {P : Program} {id0 id1 : Nat} {O0 O1 rest : List Oper} {o : Oper} {c : Code} {Q : Exit → Act → World → Prop} {a0 a1 a2 : Act} {w : World}
    (h0 : runTo P O0.toArray O0 a0 w = some (a1, w)) (h1 : runTo P (O1 ++ o :: rest).toArray O1 a1 w = some (a2, w)) (hg : o.guard = none) (t e : TypeId) (n d sz : Nat) (vs : List Value)
    (ho : o.op = .buildSlice t n (parts n d).toArray) (hu : P.underlying t = some (.slice e)) (hi : (P.info? e).map (fun i => (i.zero.map (·.cells.size), i.size)) = some (some sz, sz))
    (hn : vs.length = n) (hp : 0 < n) (hs : 0 < sz) (hsm : n * sz ≤ 2 ^ 24) (hv : vs.all (fun v => v.cells.size == sz) = true)
    (he : (parts n d).map (fun x => (x.1, a2.eval x.2)) = (vs.zipIdx 0).map fun x => (x.2, x.1))
    (h : wpList P (O1 ++ o :: rest).toArray (Exit.then (c.wp P Q) Q) rest (a2.put o.dst (.slice (some ⟨w.heap.size, 0, none⟩) n n)) (w.alloc (.cells (vs.flatMap fun v => v.cells.toList).toArray e))) :
    (Code.seq (.region id0 O0.toArray false) (.seq (.region id1 (O1 ++ o :: rest).toArray false) c)).wp P Q a0 w := by
  refine wp_seq (wp_region_lit ?_)
  have q0 := wpList_run (P := P) (ops := O0.toArray) (Q := Exit.then ((Code.seq (.region id1 (O1 ++ o :: rest).toArray false) c).wp P Q) Q) O0 [] h0
  rw [List.append_nil] at q0
  refine q0 (wp_seq (wp_region_lit (wpList_run O1 (o :: rest) h1 ?_)))
  cases hie : P.info? e with
  | none => simp [hie] at hi
  | some ie =>
    simp only [hie, Option.map_some, Option.some.injEq, Prod.mk.injEq] at hi
    obtain ⟨hz, hsz⟩ := hi
    cases hzz : ie.zero with
    | none => simp [hzz] at hz
    | some z =>
      refine wpList_buildSlice hg t e n _ ho _ ie z hu hie hzz (by rw [hsz]; omega) ?_ ?_ h
      · rw [hsz]
        have := Nat.mul_pos hp hs
        omega
      · rw [Array.toList_map]
        show Instr.fill _ _ ((parts n d).map fun x => (x.1, a2.eval x.2)) = _
        rw [he, hsz]
        refine Great.fill_whole hs vs _ (fun v hv' => ?_) (by simp [hn])
        exact eq_of_beq (List.all_eq_true.1 hv v hv')
end Go.Proofs.YtminfpkigenahaaGreatDoor.Lit
end
