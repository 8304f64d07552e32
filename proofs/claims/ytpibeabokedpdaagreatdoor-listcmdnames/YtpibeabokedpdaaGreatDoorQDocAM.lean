/- The document's space: a first value is put into it. The document's space: a first value is put into it. -/
import Derived.Test.YtpibeabokedpdaaGreatDoorQCmdM
import Derived.Test.YtpibeabokedpdaaGreatDoorRCheckK4M
import Derived.Laws.AppendOwn
import Derived.Laws.AppendOwnNone
import Derived.BigQuiet
section
namespace Go.Proofs.YtpibeabokedpdaaGreatDoor.QDocA
open Go.RowKit Go.Maps
open Go.Proofs.YtpibeabokedpdaaGreatDoor.SpaceMath
open Go.Proofs.YtpibeabokedpdaaGreatDoor.ValueMath (Vl chk small)
open Go.Proofs.YtpibeabokedpdaaGreatDoor.Base (mk mk_list mk_size Gr hid_of SL)
open Go.Proofs.YtpibeabokedpdaaGreatDoor.Turn
open Go.Proofs.YtpibeabokedpdaaGreatDoor.Vals
open Go.Proofs.YtpibeabokedpdaaGreatDoor.Check0 (Wel)
open Go.Proofs.YtpibeabokedpdaaGreatDoor.SBase
open Go.Proofs.YtpibeabokedpdaaGreatDoor.SFind (alb)
open Go.Proofs.YtpibeabokedpdaaGreatDoor.QCmd
open Go.Proofs.YtpibeabokedpdaaGreatDoor.QPut
set_option linter.unusedVariables false
set_option linter.unusedSimpArgs false
abbrev nl : Value := .slice none 0 0
abbrev vO (T : ByteArray) : Obj := .cells #[.int .i64 1, .string T, nl, nl, nl] 40
abbrev vV (T : ByteArray) : Value := .agg #[.int .i64 1, .string T, nl, nl, nl]
abbrev eV (K T : ByteArray) (A B C : Value) (d : Int) (n : Int) : Value := .agg #[.string K, .int .i64 1, .string T, A, B, C, .int .i64 d, .int .u64 n]
abbrev eL (K T : ByteArray) (A B C : Value) (d : Int) (n : Int) : List Value := [.string K, .int .i64 1, .string T, A, B, C, .int .i64 d, .int .u64 n]
abbrev eO (K T : ByteArray) (A B C : Value) (d : Int) (n : Int) : Obj := .cells #[.string K, .int .i64 1, .string T, A, B, C, .int .i64 d, .int .u64 n] 94
abbrev dO (l : Value) (n : Int) : Obj := .cells #[l, .int .u64 n, .bool false, nl, .int .u64 0, nl, nl] 68
theorem box7 {w : World} {b : Nat} {x0 x1 x2 x3 x4 x5 x6 : Value} {t : TypeId} (h : w.heap[b]? = some (.cells #[x0, x1, x2, x3, x4, x5, x6] t (0, 0))) :
    (w.cell? ⟨b, 0, none⟩ = some x0 ∧ w.cell? ⟨b, 1, none⟩ = some x1 ∧ w.cell? ⟨b, 2, none⟩ = some x2 ∧ w.cell? ⟨b, 3, none⟩ = some x3 ∧ w.cell? ⟨b, 4, none⟩ = some x4 ∧ w.cell? ⟨b, 5, none⟩ = some x5 ∧ w.cell? ⟨b, 6, none⟩ = some x6) ∧ ∀ i, w.frozen? ⟨b, i, none⟩ = false :=
  ⟨⟨Lib.cell_of_heap h 0, Lib.cell_of_heap h 1, Lib.cell_of_heap h 2, Lib.cell_of_heap h 3, Lib.cell_of_heap h 4, Lib.cell_of_heap h 5, Lib.cell_of_heap h 6⟩, fun i => Lib.frozen_of_heap h i⟩
theorem news8 (w : World) (x0 x1 x2 x3 x4 x5 x6 x7 : Value) (t : TypeId) : ∀ (j : Nat) u, [x0, x1, x2, x3, x4, x5, x6, x7][j]? = some u → (w.alloc (.cells #[x0, x1, x2, x3, x4, x5, x6, x7] t)).cell? ((⟨w.heap.size, 0, none⟩ : Addr).add j) = some u := fun j u hj => by
  have e : (⟨w.heap.size, 0, none⟩ : Addr).add j = ⟨w.heap.size, j, none⟩ := by unfold Addr.add; by_cases h0 : j = 0 <;> simp [h0]
  rw [e, Lib.cell_of_heap (heap_alloc_new w _), ← hj]
  simp
set_option maxRecDepth 100000 in
theorem fit_call (T : SBase.Bs) (hT : T.length ≤ 1048576) (d : Int) (hd : 0 ≤ d ∧ d ≤ 9007199254740992) (w : World) :
    Calls Tryz.prog 56 #[vV (mk T), .int .i64 d] w fun e w' => e = .returned (.int .i64 0) ∧ Below w.heap.size w w' := by
  obtain ⟨W, hW⟩ : ∃ W, W = w.alloc (vO (mk T)) := ⟨_, rfl⟩
  have HB := hid_of (show Below w.heap.size w W by rw [hW]; exact alb _ _)
  have x : W.heap[w.heap.size]? = some (vO (mk T)) := by rw [hW]; exact heap_alloc_new w _
  obtain ⟨⟨v0, v1, v2, v3, v4⟩, -⟩ := box5 x
  have HW := hid_of hW
  have HC := hid_of (RCheck.rcheck_call (va_s T W) (wel_s hT))
  rw [chk_s hT] at HC
  have g1 : ¬ d < 0 := by omega
  have g2 : ¬ 9007199254740992 < d := by omega
  clear hW x
  generalize mk T = TT at *
  go_enter Tryz.func56, Tryz.ntmps56
  go_wp2_with fail
  rw [← HW.out]
  go_wp2_with fail
  refine HC.out.mono ?_
  rintro e w2 ⟨rfl, b2⟩
  go_wp2_with fail
  exact bodyPost_ret (v := .int .i64 0) (by simp [results, Tryz.results56, go_sem]) rfl ⟨rfl, FRow.bel HB.out b2 (Nat.le_refl _)⟩
set_option maxRecDepth 100000 in
theorem find_call (K : ByteArray) (w0 : World) :
    Calls Tryz.prog 104 #[nl, .string K] w0 fun e w' => e = .returned (.tuple #[.int .i64 0, .bool false]) ∧ Below w0.heap.size w0 w' := by
  go_enter Tryz.func104, Tryz.ntmps104
  go_wp2_with fail
  go_loopg [6, 7] 1 (fun g s6 s7 wx => g = 1 ∧ s6 = .int .i64 0 ∧ s7 = .int .i64 0 ∧ wx = w0)
  case atStart => exact ⟨rfl, rfl, rfl, rfl⟩
  case round =>
    obtain ⟨rfl, rfl, rfl, rfl⟩ := hrel
    go_wp2_with fail
    go_quiet (fail)
    go_wp2_with fail
    exact bodyPost_ret (v := .tuple #[.int .i64 0, .bool false]) (by simp [results, Tryz.results104, go_sem]) rfl ⟨rfl, by first | exact Below.refl _ _ | exact (Below.refl _ _).drew | exact ⟨rfl, rfl, rfl, Nat.le_refl _, fun _ _ => rfl⟩⟩
set_option maxRecDepth 100000 in
theorem note_call {w : World} {bx : Nat} {n : Nat} (hx : w.heap[bx]? = some (dO nl (n : Int))) (hn : n < 1000) (K : ByteArray) :
    Calls Tryz.prog 58 #[ptr bx, .string K] w fun e w' => e = .returned (.tuple #[]) ∧ w'.heap[bx]? = some (dO nl ((n : Int) + 1)) ∧ Ev (fun k => k = bx) w w' := by
  obtain ⟨⟨v0, v1, v2, v3, v4, v5, v6⟩, fz⟩ := box7 hx
  have f1 := fz 1
  have e1 : IntKind.u64.wrap ((n : Int) + 1) = (n : Int) + 1 := by
    simp [IntKind.wrap, IntKind.bits, IntKind.signed]
    omega
  have hs := set_at (i := 1) hx (.int .u64 ((n : Int) + 1))
  obtain ⟨⟨y0, y1, y2, y3, y4, y5, y6⟩, -⟩ := box7 (show (w.setCell ⟨bx, 1, none⟩ (.int .u64 ((n : Int) + 1))).heap[bx]? = some (dO nl ((n : Int) + 1)) by simpa using hs)
  have HS := hid_of (show (w.setCell ⟨bx, 1, none⟩ (.int .u64 ((n : Int) + 1))).heap[bx]? = some (dO nl ((n : Int) + 1)) by simpa using hs)
  clear fz hs
  go_enter Tryz.func58, Tryz.ntmps58
  go_wp2_with fail
  exact bodyPost_ret (v := .tuple #[]) (by simp [results, Tryz.results58, go_sem]) rfl ⟨rfl, HS.out, Ev.set (M := fun k => k = bx) rfl _⟩
set_option maxRecDepth 100000 in
theorem change_call {w : World} {bx : Nat} {l : Value} {n : Int} (hx : w.heap[bx]? = some (dO l n)) (K T : ByteArray) (d : Int) (a1 a2 a3 : Option Addr) (n1 c1 n2 c2 n3 c3 : Nat) :
    Calls Tryz.prog 60 #[ptr bx, .agg #[.int .i64 1, .string K, .int .i64 1, .string T, .slice a1 n1 c1, .slice a2 n2 c2, .slice a3 n3 c3, .int .i64 d]] w fun e w' => e = .returned (.tuple #[]) ∧ Below w.heap.size w w' := by
  obtain ⟨⟨v0, v1, v2, v3, v4, v5, v6⟩, -⟩ := box7 hx
  have hb := lt_of hx
  clear hx
  go_enter Tryz.func60, Tryz.ntmps60
  go_wp2_with fail
  go_end0
  exact ⟨rfl, alb _ _⟩
end Go.Proofs.YtpibeabokedpdaaGreatDoor.QDocA
end
section
namespace Go.Proofs.YtpibeabokedpdaaGreatDoor.QDocB
open Go.RowKit Go.Maps
open Go.Proofs.YtpibeabokedpdaaGreatDoor.SpaceMath
open Go.Proofs.YtpibeabokedpdaaGreatDoor.ValueMath (Vl chk small)
open Go.Proofs.YtpibeabokedpdaaGreatDoor.Base (mk mk_list mk_size Gr hid_of SL)
open Go.Proofs.YtpibeabokedpdaaGreatDoor.Turn
open Go.Proofs.YtpibeabokedpdaaGreatDoor.Vals
open Go.Proofs.YtpibeabokedpdaaGreatDoor.Check0 (Wel)
open Go.Proofs.YtpibeabokedpdaaGreatDoor.SBase
open Go.Proofs.YtpibeabokedpdaaGreatDoor.SFind (alb)
open Go.Proofs.YtpibeabokedpdaaGreatDoor.QCmd
open Go.Proofs.YtpibeabokedpdaaGreatDoor.QPut
open Go.Proofs.YtpibeabokedpdaaGreatDoor.QDocA
set_option linter.unusedVariables false
set_option linter.unusedSimpArgs false
theorem infoE : (Tryz.prog.info? 94).map (fun i => (i.zero, i.size, i.bytes)) = some (some (.agg #[.string ⟨#[]⟩, .int .i64 0, .string ⟨#[]⟩, .slice none 0 0, .slice none 0 0, .slice none 0 0, .int .i64 0, .int .u64 0]), 8, 128) := by kernel_rfl
set_option maxRecDepth 100000 in
set_option maxHeartbeats 1000000 in
theorem with_call (K T : ByteArray) (a1 a2 a3 : Option Addr) (n1 c1 n2 c2 n3 c3 : Nat) (d n : Int) (w : World) :
    Calls Tryz.prog 59 #[nl, eV K T (.slice a1 n1 c1) (.slice a2 n2 c2) (.slice a3 n3 c3) d n] w fun e w' => (∃ a m c, e = .returned (.slice a m c)) ∧ Below w.heap.size w w' := by
  obtain ⟨i0, hi, hz0, hz1, hz2⟩ := FRow.parts_of infoE
  obtain ⟨W, hW⟩ : ∃ W, W = w.alloc (eO K T (.slice a1 n1 c1) (.slice a2 n2 c2) (.slice a3 n3 c3) d n) := ⟨_, rfl⟩
  have bW : Below w.heap.size w W := by rw [hW]; exact alb _ _
  have x : W.heap[w.heap.size]? = some (eO K T (.slice a1 n1 c1) (.slice a2 n2 c2) (.slice a3 n3 c3) d n) := by rw [hW]; exact heap_alloc_new w _
  obtain ⟨⟨v0, v1, v2, v3, v4, v5, v6, v7⟩, -⟩ := SSet.box8 x
  have HX := hid_of x
  have HB := hid_of bW
  have HW := hid_of hW
  have HF := hid_of (find_call K W)
  clear hW bW x
  go_enter Tryz.func59, Tryz.ntmps59
  go_wp2_with fail
  rw [← HW.out]
  go_wp2_with fail
  refine HF.out.mono ?_
  rintro e w2 ⟨rfl, b2⟩
  have B2 := hid_of (FRow.bel HB.out b2 (Nat.le_refl _))
  have x2 := (b2.block _ (lt_of HX.out)).trans HX.out
  obtain ⟨⟨y0, y1, y2, y3, y4, y5, y6, y7⟩, -⟩ := SSet.box8 x2
  have hlt := lt_of x2
  clear v0 v1 v2 v3 v4 v5 v6 v7 HX b2 HF HW
  have hn0 : w2.ownsRow w.heap.size 94 8 nl 0 [] := World.ownsRow_nil _ _ _ _
  have hn1 : (w2.alloc (eO K T (.slice a1 n1 c1) (.slice a2 n2 c2) (.slice a3 n3 c3) d n)).ownsRow w.heap.size 94 8 nl 0 [] := World.ownsRow_nil _ _ _ _
  go_wp2_with (first
    | (at_builtin; refine wpList_append_own_none rfl _ _ 65 rfl w.heap.size 94 i0 8 Tryz.underlying65 hi nl 0 [] rfl hn0 rfl ?_; go_frame)
    | (at_builtin; refine wpList_append_own _ rfl _ _ 65 rfl w.heap.size 94 i0 (.agg #[.string ⟨#[]⟩, .int .i64 0, .string ⟨#[]⟩, .slice none 0 0, .slice none 0 0, .slice none 0 0, .int .i64 0, .int .u64 0]) 8 128 Tryz.underlying65 hi hz0 hz1 hz2 rfl (by decide) _ _ _ rfl hn1 ⟨w2.heap.size, 0, none⟩ 1 1 (eL K T (.slice a1 n1 c1) (.slice a2 n2 c2) (.slice a3 n3 c3) d n) rfl rfl (news8 _ _ _ _ _ _ _ _ _ _) (by simp [Value.oneCell']) (by unfold maxLen; omega) (by omega) (by have := B2.out.size; simp; omega) ?_; intro v4 w4 hown4 hg4 hnil4; go_frame)
    | (at_builtin; refine wpList_append_own_none rfl _ _ 65 rfl w.heap.size 94 i0 8 Tryz.underlying65 hi v4 _ _ rfl hown4 rfl ?_; go_frame)
    | go_in)
  obtain ⟨a, c, hsh⟩ : ∃ a c, v4 = .slice a 1 c := by
    rcases hown4.2 with ⟨rfl, h0⟩ | ⟨g, c, cur, rfl, _⟩
    · simp at h0
    · exact ⟨_, c, rfl⟩
  exact bodyPost_ret (v := v4) (by simp [results, Tryz.results59, go_sem]) rfl ⟨⟨a, 1, c, by rw [hsh]⟩, (B2.out.trans ((alb w2 _).mono B2.out.size)).grown hg4 (by have := B2.out.size; simp; omega) (fun j hj => by cases hj)⟩
end Go.Proofs.YtpibeabokedpdaaGreatDoor.QDocB
end
