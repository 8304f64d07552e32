/- TableWays: the last row of tests, in whatever order it is reckoned: a row of several words. -/
import Derived.Test.YtgmnmcaclpfknaaWaysP
import Derived.Test.YtgmnmcaclpfknaaLast2
namespace Go.Proofs.Ytgmnmcaclpfknaa.RegMany
open Go.RowKit
open Go.Proofs.Ytgmnmcaclpfknaa.Base
attribute [local go_sem] Oper.semAt_some
set_option linter.unusedVariables false
set_option linter.unusedSimpArgs false
set_option maxHeartbeats 16000000 in
set_option maxRecDepth 100000 in
theorem reg {R ga i ca K kc : Nat} {ka : Option Addr} {NM : ByteArray} {W9 : World} {x0 x1 x2 x3 x4 x5 x8 x9 x11 x12 x14 x15 x16 x17 x18 x19 x20 x21 x22 x23 x24 x25 x26 x27 x28 x29 x30 x31 x32 x33 x34 x35 x36 x37 x38 x39 x40 x41 x42 x43 x44 x45 x46 x47 x48 x49 x50 x51 x52 x53 x54 x55 x56 x57 x58 x59 x60 x61 x62 x63 x64 x65 x66 x67 x68 x69 x70 x71 x72 x73 x74 x75 x76 x77 x78 x79 x80 x81 x82 x83 x84 x85 x86 x87 x88 x89 x90 x91 x92 x93 x94 x95 x96 x97 x98 x99 x100 x101 x102 x103 x104 x105 x106 x107 x108 x109 x110 x111 x112 x113 x114 x115 x116 x117 x118 x119 x120 x121 x122 x123 x124 x125 x126 x127 x128 x129 x130 x131 x132 x133 x134 x135 x136 x137 x138 x139 x140 x141 x142 x143 x144 x145 x146 x147 x148 x149 x150 x151 : Value} {Q : Act → World → Prop} (hi5 : i ≤ 5 ∧ 1 ≤ i) (hKi : K ≤ i)
    (HSd : Hid (∀ V, Below W9.heap.size W9 V → V.cell? ⟨R, 0, none⟩ = some (.string NM)))
    (HCk : Hid (∀ V, Below W9.heap.size W9 V → Calls Try.prog 15 #[.slice (some ⟨ga, 0, none⟩) i ca] V.drew fun e w' => e = .returned (.string ⟨#[]⟩) ∧ Below W9.heap.size W9 w'))
    (HKy : Hid (∀ V, Below W9.heap.size W9 V → Calls Try.prog 17 #[.slice (some ⟨ga, 0, none⟩) i ca] V fun e w' => ∃ kb kd, e = .returned (.slice kb K kd) ∧ Below W9.heap.size W9 w' ∧ Calls Try.prog 18 #[.slice kb K kd, .slice ka K kc] w' fun e w'' => e = .returned (.bool true) ∧ Below W9.heap.size W9 w''))
    (hQ : Hid (∀ (z111 z112 z113 z114 z115 z116 z117 z118 z119 z120 z121 z122 z123 z124 z125 z126 z127 z128 z129 z130 z131 z132 z133 z134 z135 z136 z137 z138 z139 z140 z141 z142 z143 z144 z145 z146 z147 z148 z149 z150 z151 : Value) (W' : World), Below W9.heap.size W9 W' → Q { tmps := #[x0, x1, x2, x3, .bool true, x5, .pointer (some ⟨R, 0, none⟩), .int .i64 (i : Int), x8, x9, .slice (some ⟨ga, 0, none⟩) i ca, x11, x12, .slice ka K kc, x14, x15, x16, x17, x18, x19, x20, x21, x22, x23, x24, x25, x26, x27, x28, x29, x30, x31, x32, x33, x34, x35, x36, x37, x38, x39, x40, x41, x42, x43, x44, x45, x46, x47, x48, x49, x50, x51, x52, x53, x54, x55, x56, x57, x58, x59, x60, x61, x62, x63, x64, x65, x66, x67, x68, x69, x70, x71, x72, x73, x74, x75, x76, x77, x78, x79, x80, x81, x82, x83, x84, x85, x86, x87, x88, x89, x90, x91, x92, x93, x94, x95, x96, x97, x98, x99, x100, x101, x102, x103, x104, x105, x106, x107, x108, x109, x110, z111, z112, z113, z114, z115, z116, z117, z118, z119, z120, z121, z122, z123, z124, z125, z126, z127, z128, z129, z130, z131, z132, z133, z134, z135, z136, z137, z138, z139, z140, z141, z142, z143, z144, z145, z146, z147, z148, z149, z150, z151], defers := [] } W'))
    {i1 : Nat} {AN : ByteArray} (e1 : ((i : Int) == 1) = false) (e2 : decide ((1 : Int) < (i : Int)) = true) (e2n : decide (1 < i) = true) (w1' : IntKind.i64.wrap ((i : Int) - 1) = (i1 : Int))
    (hcut : ∀ W, (Instr.slice 32 (.slice (some ⟨ga, 0, none⟩) i ca) none (some (.int .i64 (i1 : Int))) none).run Try.prog W = .ok (.slice (some ⟨ga, 0, none⟩) i1 ca) W)
    (hANr : (⟨#[69, 82, 82, 32, 119, 114, 111, 110, 103, 32, 110, 117, 109, 98, 101, 114, 32, 111, 102, 32, 97, 114, 103, 117, 109, 101, 110, 116, 115, 58, 32]⟩ : ByteArray) ++ NM = AN) (hNs : NM.size ≤ 32) (hANe : (AN.toList == AN.toList) = true)
    (HCf : Hid (∀ V, Below W9.heap.size W9 V → Calls Try.prog 15 #[.slice (some ⟨ga, 0, none⟩) i1 ca] V fun e w' => e = .returned (.string AN) ∧ Below W9.heap.size W9 w'))
    (HKf : Hid (∀ V, Below W9.heap.size W9 V → Calls Try.prog 17 #[.slice (some ⟨ga, 0, none⟩) i1 ca] V fun e w' => ∃ ra rc, e = .returned (.slice ra 0 rc) ∧ Below W9.heap.size W9 w')) :
    (Go.Code.region 32 #[{ dst := some 111, op := Go.Op.move (Go.Operand.tmp 10), type := 32, pos := "law.go:101", after := #[], guard := none }, { dst := some 112, op := Go.Op.call { callee := Go.Callee.value (Go.Operand.func 15), args := #[Go.Operand.tmp 111], argTypes := #[32] }, type := 9, pos := "law.go:101", after := #[{ on := 0, ground := Go.Ground.data }], guard := none }, { dst := some 113, op := Go.Op.binOp Go.BinOp.eql 9 (Go.Operand.tmp 112) (Go.Operand.const (Go.Value.string { data := #[] })) 9, type := 4, pos := "law.go:101", after := #[{ on := 1, ground := Go.Ground.data }], guard := none }, { dst := some 114, op := Go.Op.move (Go.Operand.tmp 113), type := 4, pos := "law.go:101", after := #[{ on := 2, ground := Go.Ground.data }, { on := 1, ground := Go.Ground.chain }], guard := none }, { dst := some 115, op := Go.Op.move (Go.Operand.tmp 10), type := 32, pos := "law.go:101", after := #[{ on := 3, ground := Go.Ground.guard }], guard := some (3, true) }, { dst := some 116, op := Go.Op.call { callee := Go.Callee.value (Go.Operand.func 17), args := #[Go.Operand.tmp 115], argTypes := #[32] }, type := 32, pos := "law.go:101", after := #[{ on := 4, ground := Go.Ground.data }, { on := 3, ground := Go.Ground.chain }, { on := 3, ground := Go.Ground.guard }], guard := some (3, true) }, { dst := some 117, op := Go.Op.move (Go.Operand.tmp 13), type := 32, pos := "law.go:101", after := #[{ on := 3, ground := Go.Ground.guard }], guard := some (3, true) }, { dst := some 118, op := Go.Op.call { callee := Go.Callee.value (Go.Operand.func 18), args := #[Go.Operand.tmp 116, Go.Operand.tmp 117], argTypes := #[32, 32] }, type := 4, pos := "law.go:101", after := #[{ on := 5, ground := Go.Ground.data }, { on := 6, ground := Go.Ground.data }, { on := 5, ground := Go.Ground.chain }, { on := 3, ground := Go.Ground.guard }], guard := some (3, true) }, { dst := some 119, op := Go.Op.pick (Go.Operand.tmp 114) (Go.Operand.tmp 118) (Go.Operand.const (Go.Value.bool false)), type := 4, pos := "law.go:101", after := #[{ on := 3, ground := Go.Ground.data }, { on := 7, ground := Go.Ground.data }], guard := none }, { dst := some 120, op := Go.Op.move (Go.Operand.tmp 119), type := 4, pos := "law.go:101", after := #[{ on := 8, ground := Go.Ground.data }, { on := 7, ground := Go.Ground.chain }], guard := none }, { dst := some 121, op := Go.Op.move (Go.Operand.tmp 7), type := 3, pos := "law.go:101", after := #[{ on := 9, ground := Go.Ground.guard }], guard := some (9, true) }, { dst := some 122, op := Go.Op.binOp Go.BinOp.eql 3 (Go.Operand.tmp 121) (Go.Operand.const (Go.Value.int Go.IntKind.i64 1)) 3, type := 4, pos := "law.go:101", after := #[{ on := 10, ground := Go.Ground.data }, { on := 9, ground := Go.Ground.guard }], guard := some (9, true) }, { dst := some 123, op := Go.Op.move (Go.Operand.tmp 122), type := 4, pos := "law.go:101", after := #[{ on := 11, ground := Go.Ground.data }, { on := 9, ground := Go.Ground.chain }, { on := 9, ground := Go.Ground.guard }], guard := some (9, true) }, { dst := some 124, op := Go.Op.call { callee := Go.Callee.value (Go.Operand.func 15), args := #[Go.Operand.const (Go.Value.slice none 0 0)], argTypes := #[32] }, type := 9, pos := "law.go:101", after := #[{ on := 12, ground := Go.Ground.chain }, { on := 12, ground := Go.Ground.guard }], guard := some (12, true) }, { dst := some 125, op := Go.Op.binOp Go.BinOp.eql 9 (Go.Operand.tmp 124) (Go.Operand.const (Go.Value.string { data := #[69, 82, 82, 32, 117, 110, 107, 110, 111, 119, 110, 32, 99, 111, 109, 109, 97, 110, 100, 32] })) 9, type := 4, pos := "law.go:101", after := #[{ on := 13, ground := Go.Ground.data }, { on := 12, ground := Go.Ground.guard }], guard := some (12, true) }, { dst := some 126, op := Go.Op.pick (Go.Operand.tmp 123) (Go.Operand.tmp 125) (Go.Operand.const (Go.Value.bool false)), type := 4, pos := "law.go:101", after := #[{ on := 12, ground := Go.Ground.data }, { on := 14, ground := Go.Ground.data }, { on := 9, ground := Go.Ground.guard }], guard := some (9, true) }, { dst := some 127, op := Go.Op.move (Go.Operand.tmp 126), type := 4, pos := "law.go:101", after := #[{ on := 15, ground := Go.Ground.data }, { on := 13, ground := Go.Ground.chain }, { on := 9, ground := Go.Ground.guard }], guard := some (9, true) }, { dst := some 128, op := Go.Op.move (Go.Operand.tmp 7), type := 3, pos := "law.go:101", after := #[{ on := 16, ground := Go.Ground.guard }], guard := some (16, false) }, { dst := some 129, op := Go.Op.binOp Go.BinOp.gtr 3 (Go.Operand.tmp 128) (Go.Operand.const (Go.Value.int Go.IntKind.i64 1)) 3, type := 4, pos := "law.go:101", after := #[{ on := 17, ground := Go.Ground.data }, { on := 16, ground := Go.Ground.guard }], guard := some (16, false) }, { dst := some 130, op := Go.Op.move (Go.Operand.tmp 129), type := 4, pos := "law.go:101", after := #[{ on := 18, ground := Go.Ground.data }, { on := 16, ground := Go.Ground.chain }, { on := 16, ground := Go.Ground.guard }], guard := some (16, false) }, { dst := some 131, op := Go.Op.move (Go.Operand.tmp 10), type := 32, pos := "law.go:101", after := #[{ on := 19, ground := Go.Ground.guard }], guard := some (19, true) }, { dst := some 132, op := Go.Op.move (Go.Operand.tmp 7), type := 3, pos := "law.go:101", after := #[{ on := 19, ground := Go.Ground.guard }], guard := some (19, true) }, { dst := some 133, op := Go.Op.binOp Go.BinOp.sub 3 (Go.Operand.tmp 132) (Go.Operand.const (Go.Value.int Go.IntKind.i64 1)) 3, type := 3, pos := "law.go:101", after := #[{ on := 21, ground := Go.Ground.data }, { on := 19, ground := Go.Ground.guard }], guard := some (19, true) }, { dst := some 134, op := Go.Op.slice 32 (Go.Operand.tmp 131) none (some (Go.Operand.tmp 133)) none, type := 32, pos := "law.go:101", after := #[{ on := 20, ground := Go.Ground.data }, { on := 22, ground := Go.Ground.data }, { on := 19, ground := Go.Ground.guard }], guard := some (19, true) }, { dst := some 135, op := Go.Op.call { callee := Go.Callee.value (Go.Operand.func 15), args := #[Go.Operand.tmp 134], argTypes := #[32] }, type := 9, pos := "law.go:101", after := #[{ on := 23, ground := Go.Ground.data }, { on := 19, ground := Go.Ground.chain }, { on := 19, ground := Go.Ground.guard }], guard := some (19, true) }, { dst := some 136, op := Go.Op.fieldAddr 23 (Go.Operand.tmp 6) 0, type := 0, pos := "law.go:101", after := #[{ on := 19, ground := Go.Ground.guard }], guard := some (19, true) }, { dst := some 137, op := Go.Op.load 9 (Go.Operand.tmp 136), type := 9, pos := "law.go:101", after := #[{ on := 25, ground := Go.Ground.data }, { on := 19, ground := Go.Ground.guard }], guard := some (19, true) }, { dst := some 138, op := Go.Op.binOp Go.BinOp.add 9 (Go.Operand.const (Go.Value.string { data := #[69, 82, 82, 32, 119, 114, 111, 110, 103, 32, 110, 117, 109, 98, 101, 114, 32, 111, 102, 32, 97, 114, 103, 117, 109, 101, 110, 116, 115, 58, 32] })) (Go.Operand.tmp 137) 9, type := 9, pos := "law.go:101", after := #[{ on := 26, ground := Go.Ground.data }, { on := 19, ground := Go.Ground.guard }], guard := some (19, true) }, { dst := some 139, op := Go.Op.binOp Go.BinOp.eql 9 (Go.Operand.tmp 135) (Go.Operand.tmp 138) 9, type := 4, pos := "law.go:101", after := #[{ on := 24, ground := Go.Ground.data }, { on := 27, ground := Go.Ground.data }, { on := 19, ground := Go.Ground.guard }], guard := some (19, true) }, { dst := some 140, op := Go.Op.pick (Go.Operand.tmp 130) (Go.Operand.tmp 139) (Go.Operand.const (Go.Value.bool false)), type := 4, pos := "law.go:101", after := #[{ on := 19, ground := Go.Ground.data }, { on := 28, ground := Go.Ground.data }, { on := 16, ground := Go.Ground.guard }], guard := some (16, false) }, { dst := some 141, op := Go.Op.move (Go.Operand.tmp 140), type := 4, pos := "law.go:101", after := #[{ on := 29, ground := Go.Ground.data }, { on := 24, ground := Go.Ground.chain }, { on := 16, ground := Go.Ground.guard }], guard := some (16, false) }, { dst := some 142, op := Go.Op.move (Go.Operand.tmp 10), type := 32, pos := "law.go:101", after := #[{ on := 30, ground := Go.Ground.guard }], guard := some (30, true) }, { dst := some 143, op := Go.Op.move (Go.Operand.tmp 7), type := 3, pos := "law.go:101", after := #[{ on := 30, ground := Go.Ground.guard }], guard := some (30, true) }, { dst := some 144, op := Go.Op.binOp Go.BinOp.sub 3 (Go.Operand.tmp 143) (Go.Operand.const (Go.Value.int Go.IntKind.i64 1)) 3, type := 3, pos := "law.go:101", after := #[{ on := 32, ground := Go.Ground.data }, { on := 30, ground := Go.Ground.guard }], guard := some (30, true) }, { dst := some 145, op := Go.Op.slice 32 (Go.Operand.tmp 142) none (some (Go.Operand.tmp 144)) none, type := 32, pos := "law.go:101", after := #[{ on := 31, ground := Go.Ground.data }, { on := 33, ground := Go.Ground.data }, { on := 30, ground := Go.Ground.guard }], guard := some (30, true) }, { dst := some 146, op := Go.Op.call { callee := Go.Callee.value (Go.Operand.func 17), args := #[Go.Operand.tmp 145], argTypes := #[32] }, type := 32, pos := "law.go:101", after := #[{ on := 34, ground := Go.Ground.data }, { on := 30, ground := Go.Ground.chain }, { on := 30, ground := Go.Ground.guard }], guard := some (30, true) }, { dst := some 147, op := Go.Op.call { callee := Go.Callee.builtin Go.Builtin.len, args := #[Go.Operand.tmp 146], argTypes := #[32] }, type := 3, pos := "law.go:101", after := #[{ on := 35, ground := Go.Ground.data }, { on := 30, ground := Go.Ground.guard }], guard := some (30, true) }, { dst := some 148, op := Go.Op.binOp Go.BinOp.eql 3 (Go.Operand.tmp 147) (Go.Operand.const (Go.Value.int Go.IntKind.i64 0)) 3, type := 4, pos := "law.go:101", after := #[{ on := 36, ground := Go.Ground.data }, { on := 30, ground := Go.Ground.guard }], guard := some (30, true) }, { dst := some 149, op := Go.Op.pick (Go.Operand.tmp 141) (Go.Operand.tmp 148) (Go.Operand.const (Go.Value.bool false)), type := 4, pos := "law.go:101", after := #[{ on := 30, ground := Go.Ground.data }, { on := 37, ground := Go.Ground.data }, { on := 16, ground := Go.Ground.guard }], guard := some (16, false) }, { dst := some 150, op := Go.Op.pick (Go.Operand.tmp 127) (Go.Operand.const (Go.Value.bool true)) (Go.Operand.tmp 149), type := 4, pos := "law.go:101", after := #[{ on := 16, ground := Go.Ground.data }, { on := 38, ground := Go.Ground.data }, { on := 9, ground := Go.Ground.guard }], guard := some (9, true) }, { dst := some 151, op := Go.Op.pick (Go.Operand.tmp 120) (Go.Operand.tmp 150) (Go.Operand.const (Go.Value.bool false)), type := 4, pos := "law.go:101", after := #[{ on := 9, ground := Go.Ground.data }, { on := 39, ground := Go.Ground.data }], guard := none }, { dst := some 4, op := Go.Op.assign (Go.Operand.tmp 151), type := 4, pos := "law.go:101", after := #[{ on := 40, ground := Go.Ground.data }, { on := 35, ground := Go.Ground.chain }, { on := 0, ground := Go.Ground.phase }, { on := 1, ground := Go.Ground.phase }, { on := 2, ground := Go.Ground.phase }, { on := 3, ground := Go.Ground.phase }, { on := 4, ground := Go.Ground.phase }, { on := 5, ground := Go.Ground.phase }, { on := 6, ground := Go.Ground.phase }, { on := 7, ground := Go.Ground.phase }, { on := 8, ground := Go.Ground.phase }, { on := 9, ground := Go.Ground.phase }, { on := 10, ground := Go.Ground.phase }, { on := 11, ground := Go.Ground.phase }, { on := 12, ground := Go.Ground.phase }, { on := 13, ground := Go.Ground.phase }, { on := 14, ground := Go.Ground.phase }, { on := 15, ground := Go.Ground.phase }, { on := 16, ground := Go.Ground.phase }, { on := 17, ground := Go.Ground.phase }, { on := 18, ground := Go.Ground.phase }, { on := 19, ground := Go.Ground.phase }, { on := 20, ground := Go.Ground.phase }, { on := 21, ground := Go.Ground.phase }, { on := 22, ground := Go.Ground.phase }, { on := 23, ground := Go.Ground.phase }, { on := 24, ground := Go.Ground.phase }, { on := 25, ground := Go.Ground.phase }, { on := 26, ground := Go.Ground.phase }, { on := 27, ground := Go.Ground.phase }, { on := 28, ground := Go.Ground.phase }, { on := 29, ground := Go.Ground.phase }, { on := 30, ground := Go.Ground.phase }, { on := 31, ground := Go.Ground.phase }, { on := 32, ground := Go.Ground.phase }, { on := 33, ground := Go.Ground.phase }, { on := 34, ground := Go.Ground.phase }, { on := 35, ground := Go.Ground.phase }, { on := 36, ground := Go.Ground.phase }, { on := 37, ground := Go.Ground.phase }, { on := 38, ground := Go.Ground.phase }, { on := 39, ground := Go.Ground.phase }, { on := 40, ground := Go.Ground.phase }], guard := none }] true).wp Try.prog (Exit.then Q (fun _ _ _ => False)) { tmps := #[x0, x1, x2, x3, x4, x5, .pointer (some ⟨R, 0, none⟩), .int .i64 (i : Int), x8, x9, .slice (some ⟨ga, 0, none⟩) i ca, x11, x12, .slice ka K kc, x14, x15, x16, x17, x18, x19, x20, x21, x22, x23, x24, x25, x26, x27, x28, x29, x30, x31, x32, x33, x34, x35, x36, x37, x38, x39, x40, x41, x42, x43, x44, x45, x46, x47, x48, x49, x50, x51, x52, x53, x54, x55, x56, x57, x58, x59, x60, x61, x62, x63, x64, x65, x66, x67, x68, x69, x70, x71, x72, x73, x74, x75, x76, x77, x78, x79, x80, x81, x82, x83, x84, x85, x86, x87, x88, x89, x90, x91, x92, x93, x94, x95, x96, x97, x98, x99, x100, x101, x102, x103, x104, x105, x106, x107, x108, x109, x110, x111, x112, x113, x114, x115, x116, x117, x118, x119, x120, x121, x122, x123, x124, x125, x126, x127, x128, x129, x130, x131, x132, x133, x134, x135, x136, x137, x138, x139, x140, x141, x142, x143, x144, x145, x146, x147, x148, x149, x150, x151], defers := [] } W9 := by
  refine Last.start (fun V : World => V.cell? ⟨R, 0, none⟩ = some (.string NM)) 41 (by kernel_rfl) ?_
  have hs0 : (fun V : World => V.cell? ⟨R, 0, none⟩ = some (.string NM)) W9.drew := HSd.out W9 (Below.refl _ _)
  refine Last.take2 1 (i := 0) (v := .slice (some ⟨ga, 0, none⟩) i ca) rfl (by kernel_rfl) (by kernel_rfl) (by kernel_rfl) (by kernel_rfl) (by kernel_rfl) (fun _ _ _ h => h) (Or.inl ⟨by kernel_rfl, ?_⟩) hs0 ?_
  · intro W hSW
    have s0 : W.cell? ⟨R, 0, none⟩ = some (.string NM) := hSW
    go_simp
  simp only [Act.put, List.setIfInBounds_toArray, List.set_cons_zero, List.set_cons_succ]
  refine Last.one (i := 1) rfl (by kernel_rfl) ?_
  intro K' hK0
  have hK := hid_of hK0
  clear hK0
  go_simp
  refine (HCk.out _ (Below.refl _ _)).mono ?_
  rintro e w10 ⟨rfl, b10⟩
  have hs1 : (fun V : World => V.cell? ⟨R, 0, none⟩ = some (.string NM)) w10 := HSd.out w10 b10
  refine hK.out _ _ (fun _ => hs1) ?_
  clear hK K'
  try simp only [Act.put, List.setIfInBounds_toArray, List.set_cons_zero, List.set_cons_succ]
  refine Last.one (i := 2) rfl (by kernel_rfl) ?_
  intro K' hK0
  have hK := hid_of hK0
  clear hK0
  go_simp
  refine hK.out _ _ (fun _ => hs1) ?_
  clear hK K'
  try simp only [Act.put, List.setIfInBounds_toArray, List.set_cons_zero, List.set_cons_succ]
  refine Last.one (i := 3) rfl (by kernel_rfl) ?_
  intro K' hK0
  have hK := hid_of hK0
  clear hK0
  go_simp
  refine hK.out _ _ (fun _ => hs1) ?_
  clear hK K'
  try simp only [Act.put, List.setIfInBounds_toArray, List.set_cons_zero, List.set_cons_succ]
  refine Last.take2 1 (i := 4) (v := .slice (some ⟨ga, 0, none⟩) i ca) rfl (by kernel_rfl) (by kernel_rfl) (by kernel_rfl) (by kernel_rfl) (by kernel_rfl) (fun _ _ _ h => h) (Or.inl ⟨by kernel_rfl, ?_⟩) hs1 ?_
  · intro W hSW
    have s0 : W.cell? ⟨R, 0, none⟩ = some (.string NM) := hSW
    go_simp
  simp only [Act.put, List.setIfInBounds_toArray, List.set_cons_zero, List.set_cons_succ]
  refine Last.take2 1 (i := 6) (v := .slice ka K kc) rfl (by kernel_rfl) (by kernel_rfl) (by kernel_rfl) (by kernel_rfl) (by kernel_rfl) (fun _ _ _ h => h) (Or.inl ⟨by kernel_rfl, ?_⟩) hs1 ?_
  · intro W hSW
    have s0 : W.cell? ⟨R, 0, none⟩ = some (.string NM) := hSW
    go_simp
  simp only [Act.put, List.setIfInBounds_toArray, List.set_cons_zero, List.set_cons_succ]
  refine Last.one (i := 5) rfl (by kernel_rfl) ?_
  intro K' hK0
  have hK := hid_of hK0
  clear hK0
  go_simp
  refine (HKy.out _ b10).mono ?_
  rintro e w11 ⟨kb, kd, rfl, b11, hsm⟩
  have hs2 : (fun V : World => V.cell? ⟨R, 0, none⟩ = some (.string NM)) w11 := HSd.out w11 b11
  refine hK.out _ _ (fun _ => hs2) ?_
  clear hK K'
  try simp only [Act.put, List.setIfInBounds_toArray, List.set_cons_zero, List.set_cons_succ]
  refine Last.one (i := 7) rfl (by kernel_rfl) ?_
  intro K' hK0
  have hK := hid_of hK0
  clear hK0
  go_simp
  refine hsm.mono ?_
  rintro e w12 ⟨rfl, b12⟩
  have hs3 : (fun V : World => V.cell? ⟨R, 0, none⟩ = some (.string NM)) w12 := HSd.out w12 b12
  refine hK.out _ _ (fun _ => hs3) ?_
  clear hK K'
  try simp only [Act.put, List.setIfInBounds_toArray, List.set_cons_zero, List.set_cons_succ]
  refine Last.one (i := 8) rfl (by kernel_rfl) ?_
  intro K' hK0
  have hK := hid_of hK0
  clear hK0
  go_simp
  refine hK.out _ _ (fun _ => hs3) ?_
  clear hK K'
  try simp only [Act.put, List.setIfInBounds_toArray, List.set_cons_zero, List.set_cons_succ]
  refine Last.one (i := 9) rfl (by kernel_rfl) ?_
  intro K' hK0
  have hK := hid_of hK0
  clear hK0
  go_simp
  refine hK.out _ _ (fun _ => hs3) ?_
  clear hK K'
  try simp only [Act.put, List.setIfInBounds_toArray, List.set_cons_zero, List.set_cons_succ]
  refine Last.one (i := 10) rfl (by kernel_rfl) ?_
  intro K' hK0
  have hK := hid_of hK0
  clear hK0
  go_simp
  refine hK.out _ _ (fun _ => hs3) ?_
  clear hK K'
  try simp only [Act.put, List.setIfInBounds_toArray, List.set_cons_zero, List.set_cons_succ]
  refine Last.one (i := 11) rfl (by kernel_rfl) ?_
  intro K' hK0
  have hK := hid_of hK0
  clear hK0
  go_simp
  refine hK.out _ _ (fun _ => hs3) ?_
  clear hK K'
  try simp only [Act.put, List.setIfInBounds_toArray, List.set_cons_zero, List.set_cons_succ]
  refine Last.one (i := 12) rfl (by kernel_rfl) ?_
  intro K' hK0
  have hK := hid_of hK0
  clear hK0
  go_simp
  refine hK.out _ _ (fun _ => hs3) ?_
  clear hK K'
  try simp only [Act.put, List.setIfInBounds_toArray, List.set_cons_zero, List.set_cons_succ]
  refine Last.one (i := 13) rfl (by kernel_rfl) ?_
  intro K' hK0
  have hK := hid_of hK0
  clear hK0
  go_simp
  refine hK.out _ _ (fun _ => hs3) ?_
  clear hK K'
  try simp only [Act.put, List.setIfInBounds_toArray, List.set_cons_zero, List.set_cons_succ]
  refine Last.one (i := 14) rfl (by kernel_rfl) ?_
  intro K' hK0
  have hK := hid_of hK0
  clear hK0
  go_simp
  refine hK.out _ _ (fun _ => hs3) ?_
  clear hK K'
  try simp only [Act.put, List.setIfInBounds_toArray, List.set_cons_zero, List.set_cons_succ]
  refine Last.one (i := 15) rfl (by kernel_rfl) ?_
  intro K' hK0
  have hK := hid_of hK0
  clear hK0
  go_simp
  refine hK.out _ _ (fun _ => hs3) ?_
  clear hK K'
  try simp only [Act.put, List.setIfInBounds_toArray, List.set_cons_zero, List.set_cons_succ]
  refine Last.one (i := 16) rfl (by kernel_rfl) ?_
  intro K' hK0
  have hK := hid_of hK0
  clear hK0
  go_simp
  refine hK.out _ _ (fun _ => hs3) ?_
  clear hK K'
  try simp only [Act.put, List.setIfInBounds_toArray, List.set_cons_zero, List.set_cons_succ]
  refine Last.one (i := 17) rfl (by kernel_rfl) ?_
  intro K' hK0
  have hK := hid_of hK0
  clear hK0
  go_simp
  refine hK.out _ _ (fun _ => hs3) ?_
  clear hK K'
  try simp only [Act.put, List.setIfInBounds_toArray, List.set_cons_zero, List.set_cons_succ]
  refine Last.one (i := 18) rfl (by kernel_rfl) ?_
  intro K' hK0
  have hK := hid_of hK0
  clear hK0
  go_simp
  refine hK.out _ _ (fun _ => hs3) ?_
  clear hK K'
  try simp only [Act.put, List.setIfInBounds_toArray, List.set_cons_zero, List.set_cons_succ]
  refine Last.one (i := 19) rfl (by kernel_rfl) ?_
  intro K' hK0
  have hK := hid_of hK0
  clear hK0
  go_simp
  refine hK.out _ _ (fun _ => hs3) ?_
  clear hK K'
  try simp only [Act.put, List.setIfInBounds_toArray, List.set_cons_zero, List.set_cons_succ]
  refine Last.take2 1 (i := 20) (v := .slice (some ⟨ga, 0, none⟩) i ca) rfl (by kernel_rfl) (by kernel_rfl) (by kernel_rfl) (by kernel_rfl) (by kernel_rfl) (fun _ _ _ h => h) (Or.inl ⟨by kernel_rfl, ?_⟩) hs3 ?_
  · intro W hSW
    have s0 : W.cell? ⟨R, 0, none⟩ = some (.string NM) := hSW
    go_simp
  simp only [Act.put, List.setIfInBounds_toArray, List.set_cons_zero, List.set_cons_succ]
  refine Last.take2 1 (i := 21) (v := .int .i64 (i : Int)) rfl (by kernel_rfl) (by kernel_rfl) (by kernel_rfl) (by kernel_rfl) (by kernel_rfl) (fun _ _ _ h => h) (Or.inl ⟨by kernel_rfl, ?_⟩) hs3 ?_
  · intro W hSW
    have s0 : W.cell? ⟨R, 0, none⟩ = some (.string NM) := hSW
    go_simp
  simp only [Act.put, List.setIfInBounds_toArray, List.set_cons_zero, List.set_cons_succ]
  refine Last.take2 1 (i := 25) (v := .pointer (some ⟨R, 0, none⟩)) rfl (by kernel_rfl) (by kernel_rfl) (by kernel_rfl) (by kernel_rfl) (by kernel_rfl) (fun _ _ _ h => h) (Or.inl ⟨by kernel_rfl, ?_⟩) hs3 ?_
  · intro W hSW
    have s0 : W.cell? ⟨R, 0, none⟩ = some (.string NM) := hSW
    go_simp
  simp only [Act.put, List.setIfInBounds_toArray, List.set_cons_zero, List.set_cons_succ]
  refine Last.take2 1 (i := 22) (v := .int .i64 (i1 : Int)) rfl (by kernel_rfl) (by kernel_rfl) (by kernel_rfl) (by kernel_rfl) (by kernel_rfl) (fun _ _ _ h => h) (Or.inl ⟨by kernel_rfl, ?_⟩) hs3 ?_
  · intro W hSW
    have s0 : W.cell? ⟨R, 0, none⟩ = some (.string NM) := hSW
    go_simp
  simp only [Act.put, List.setIfInBounds_toArray, List.set_cons_zero, List.set_cons_succ]
  refine Last.take2 1 (i := 26) (v := .string NM) rfl (by kernel_rfl) (by kernel_rfl) (by kernel_rfl) (by kernel_rfl) (by kernel_rfl) (fun _ _ _ h => h) (Or.inl ⟨by kernel_rfl, ?_⟩) hs3 ?_
  · intro W hSW
    have s0 : W.cell? ⟨R, 0, none⟩ = some (.string NM) := hSW
    go_simp
  simp only [Act.put, List.setIfInBounds_toArray, List.set_cons_zero, List.set_cons_succ]
  refine Last.take2 1 (i := 23) (v := .slice (some ⟨ga, 0, none⟩) i1 ca) rfl (by kernel_rfl) (by kernel_rfl) (by kernel_rfl) (by kernel_rfl) (by kernel_rfl) (fun _ _ _ h => h) (Or.inl ⟨by kernel_rfl, ?_⟩) hs3 ?_
  · intro W hSW
    have s0 : W.cell? ⟨R, 0, none⟩ = some (.string NM) := hSW
    go_simp
  simp only [Act.put, List.setIfInBounds_toArray, List.set_cons_zero, List.set_cons_succ]
  refine Last.take2 1 (i := 27) (v := .string AN) rfl (by kernel_rfl) (by kernel_rfl) (by kernel_rfl) (by kernel_rfl) (by kernel_rfl) (fun _ _ _ h => h) (Or.inl ⟨by kernel_rfl, ?_⟩) hs3 ?_
  · intro W hSW
    have s0 : W.cell? ⟨R, 0, none⟩ = some (.string NM) := hSW
    go_simp
    omega
  simp only [Act.put, List.setIfInBounds_toArray, List.set_cons_zero, List.set_cons_succ]
  refine Last.one (i := 24) rfl (by kernel_rfl) ?_
  intro K' hK0
  have hK := hid_of hK0
  clear hK0
  go_simp
  refine (HCf.out _ b12).mono ?_
  rintro e w13 ⟨rfl, b13⟩
  have hs4 : (fun V : World => V.cell? ⟨R, 0, none⟩ = some (.string NM)) w13 := HSd.out w13 b13
  refine hK.out _ _ (fun _ => hs4) ?_
  clear hK K'
  try simp only [Act.put, List.setIfInBounds_toArray, List.set_cons_zero, List.set_cons_succ]
  refine Last.one (i := 28) rfl (by kernel_rfl) ?_
  intro K' hK0
  have hK := hid_of hK0
  clear hK0
  go_simp
  refine hK.out _ _ (fun _ => hs4) ?_
  clear hK K'
  try simp only [Act.put, List.setIfInBounds_toArray, List.set_cons_zero, List.set_cons_succ]
  refine Last.one (i := 29) rfl (by kernel_rfl) ?_
  intro K' hK0
  have hK := hid_of hK0
  clear hK0
  go_simp
  refine hK.out _ _ (fun _ => hs4) ?_
  clear hK K'
  try simp only [Act.put, List.setIfInBounds_toArray, List.set_cons_zero, List.set_cons_succ]
  refine Last.one (i := 30) rfl (by kernel_rfl) ?_
  intro K' hK0
  have hK := hid_of hK0
  clear hK0
  go_simp
  refine hK.out _ _ (fun _ => hs4) ?_
  clear hK K'
  try simp only [Act.put, List.setIfInBounds_toArray, List.set_cons_zero, List.set_cons_succ]
  refine Last.take2 1 (i := 31) (v := .slice (some ⟨ga, 0, none⟩) i ca) rfl (by kernel_rfl) (by kernel_rfl) (by kernel_rfl) (by kernel_rfl) (by kernel_rfl) (fun _ _ _ h => h) (Or.inl ⟨by kernel_rfl, ?_⟩) hs4 ?_
  · intro W hSW
    have s0 : W.cell? ⟨R, 0, none⟩ = some (.string NM) := hSW
    go_simp
  simp only [Act.put, List.setIfInBounds_toArray, List.set_cons_zero, List.set_cons_succ]
  refine Last.take2 1 (i := 32) (v := .int .i64 (i : Int)) rfl (by kernel_rfl) (by kernel_rfl) (by kernel_rfl) (by kernel_rfl) (by kernel_rfl) (fun _ _ _ h => h) (Or.inl ⟨by kernel_rfl, ?_⟩) hs4 ?_
  · intro W hSW
    have s0 : W.cell? ⟨R, 0, none⟩ = some (.string NM) := hSW
    go_simp
  simp only [Act.put, List.setIfInBounds_toArray, List.set_cons_zero, List.set_cons_succ]
  refine Last.one (i := 33) rfl (by kernel_rfl) ?_
  intro K' hK0
  have hK := hid_of hK0
  clear hK0
  go_simp
  refine hK.out _ _ (fun _ => hs4) ?_
  clear hK K'
  try simp only [Act.put, List.setIfInBounds_toArray, List.set_cons_zero, List.set_cons_succ]
  refine Last.one (i := 34) rfl (by kernel_rfl) ?_
  intro K' hK0
  have hK := hid_of hK0
  clear hK0
  go_simp
  refine hK.out _ _ (fun _ => hs4) ?_
  clear hK K'
  try simp only [Act.put, List.setIfInBounds_toArray, List.set_cons_zero, List.set_cons_succ]
  refine Last.one (i := 35) rfl (by kernel_rfl) ?_
  intro K' hK0
  have hK := hid_of hK0
  clear hK0
  go_simp
  refine (HKf.out _ b13).mono ?_
  rintro e w14 ⟨ra, rc, rfl, b14⟩
  have hs5 : (fun V : World => V.cell? ⟨R, 0, none⟩ = some (.string NM)) w14 := HSd.out w14 b14
  refine hK.out _ _ (fun _ => hs5) ?_
  clear hK K'
  try simp only [Act.put, List.setIfInBounds_toArray, List.set_cons_zero, List.set_cons_succ]
  refine Last.one (i := 36) rfl (by kernel_rfl) ?_
  intro K' hK0
  have hK := hid_of hK0
  clear hK0
  go_simp
  refine hK.out _ _ (fun _ => hs5) ?_
  clear hK K'
  try simp only [Act.put, List.setIfInBounds_toArray, List.set_cons_zero, List.set_cons_succ]
  refine Last.one (i := 37) rfl (by kernel_rfl) ?_
  intro K' hK0
  have hK := hid_of hK0
  clear hK0
  go_simp
  refine hK.out _ _ (fun _ => hs5) ?_
  clear hK K'
  try simp only [Act.put, List.setIfInBounds_toArray, List.set_cons_zero, List.set_cons_succ]
  refine Last.one (i := 38) rfl (by kernel_rfl) ?_
  intro K' hK0
  have hK := hid_of hK0
  clear hK0
  go_simp
  refine hK.out _ _ (fun _ => hs5) ?_
  clear hK K'
  try simp only [Act.put, List.setIfInBounds_toArray, List.set_cons_zero, List.set_cons_succ]
  refine Last.one (i := 39) rfl (by kernel_rfl) ?_
  intro K' hK0
  have hK := hid_of hK0
  clear hK0
  go_simp
  refine hK.out _ _ (fun _ => hs5) ?_
  clear hK K'
  try simp only [Act.put, List.setIfInBounds_toArray, List.set_cons_zero, List.set_cons_succ]
  refine Last.one (i := 40) rfl (by kernel_rfl) ?_
  intro K' hK0
  have hK := hid_of hK0
  clear hK0
  go_simp
  refine hK.out _ _ (fun _ => hs5) ?_
  clear hK K'
  try simp only [Act.put, List.setIfInBounds_toArray, List.set_cons_zero, List.set_cons_succ]
  refine Last.one (i := 41) rfl (by kernel_rfl) ?_
  intro K' hK0
  have hK := hid_of hK0
  clear hK0
  go_simp
  refine hK.out _ _ (fun h => absurd rfl h) ?_
  clear hK K'
  try simp only [Act.put, List.setIfInBounds_toArray, List.set_cons_zero, List.set_cons_succ]
  refine Last.fin (by kernel_rfl) ?_ _
  have HBl := hid_of b14
  exact hQ.out _ _ _ _ _ _ _ _ _ _ _ _ _ _ _ _ _ _ _ _ _ _ _ _ _ _ _ _ _ _ _ _ _ _ _ _ _ _ _ _ _ _ HBl.out
end Go.Proofs.Ytgmnmcaclpfknaa.RegMany
