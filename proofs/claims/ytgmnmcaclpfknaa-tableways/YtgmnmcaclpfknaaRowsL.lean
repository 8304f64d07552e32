/- The document's table in memory. -/
import Derived.Test.YtgmnmcaclpfknaaTab
import Derived.Test.YtgmnmcaclpfknaaBase
import Derived.Test.YtgmnmcaclpfknaaLit
namespace Go.Proofs.Ytgmnmcaclpfknaa.RowsL
open Go.RowKit
open Go.Proofs.Ytgmnmcaclpfknaa.Tab
open Go.Proofs.Ytgmnmcaclpfknaa.Base
open Go.Proofs.Ytgmnmcaclpfknaa.Run
open Go.Proofs.Ytgmnmcaclpfknaa.Lit
set_option linter.unusedVariables false
set_option linter.unusedSimpArgs false
def cellsS (r : Sc) : List Value := [.string (mk r.name), .int .i64 r.arity, .bool r.wr, .bool r.ct, .int .i64 r.first, .int .i64 r.last, .int .i64 r.step]
def valS (r : Sc) : Value := .agg (cellsS r).toArray
def frame (k : Nat) : Act := ⟨(Value.slice none 0 0 :: ((docRows.take k).map valS ++ List.replicate (119 - k) undef)).toArray, []⟩
noncomputable def O1 : List Oper := ops Try.f14 1
noncomputable def ob : Oper := operNo Try.f14 1 118
noncomputable def oa : Oper := operNo Try.f14 1 119
noncomputable def op0 : Oper := operNo Try.f14 0 0
theorem r1 (w : World) : runTo Try.prog (O1.take 118 ++ ob :: [oa]).toArray (O1.take 118) (frame 0) w = some (frame 118, w) := by kernel_rfl
theorem shape : Try.f14.body = some (Code.seq (.region 0 [op0].toArray false) (.seq (.region 1 (O1.take 118 ++ ob :: [oa]).toArray false) .ret)) := by kernel_rfl
theorem evs : (parts 118 1).map (fun x => (x.1, (frame 118).eval x.2)) = ((docRows.map valS).zipIdx 0).map fun x => (x.2, x.1) := by kernel_rfl
theorem info : (Try.prog.info? 23).map (fun i => (i.zero.map (·.cells.size), i.size)) = some (some 7, 7) := by kernel_rfl
theorem sizes : (docRows.map valS).all (fun v => v.cells.size == 7) = true := by kernel_rfl
def last (w : World) : Act := ⟨(((Value.slice none 0 0) :: docRows.map valS) ++ [Value.slice (some ⟨w.heap.size, 0, none⟩) 118 118]).toArray, []⟩
def last2 (w : World) : Act := ⟨((Value.slice (some ⟨w.heap.size, 0, none⟩) 118 118 :: docRows.map valS) ++ [Value.slice (some ⟨w.heap.size, 0, none⟩) 118 118]).toArray, []⟩
def docCells : Array Value := ((docRows.map valS).flatMap fun v => v.cells.toList).toArray
theorem put1 (w : World) : (frame 118).put ob.dst (.slice (some ⟨w.heap.size, 0, none⟩) 118 118) = last w := by kernel_rfl
theorem r2 (w w' : World) : runTo Try.prog (O1.take 118 ++ ob :: [oa]).toArray [oa] (last w) w' = some (last2 w, w') := by kernel_rfl
theorem res (w w' : World) : (results Try.f14 (last2 w).tmps).run Try.prog w' = .ok (.slice (some ⟨w.heap.size, 0, none⟩) 118 118) w' := by kernel_rfl
theorem rows_call (w : World) : Calls Try.prog 14 #[] w fun e w' => e = .returned (.slice (some ⟨w.heap.size, 0, none⟩) 118 118) ∧ w' = w.alloc (.cells docCells 23) := by
  refine calls_of_wp Try.func14 shape ?_
  refine lit_wp (a1 := frame 0) (a2 := frame 118) (by kernel_rfl) (r1 w) (by kernel_rfl) 29 23 118 1 7 (docRows.map valS) (by kernel_rfl) Try.underlying29 info (by rw [List.length_map]; exact doc_len) (by decide) (by decide) (by decide) sizes evs ?_
  rw [put1]
  have := wpList_run (P := Try.prog) (ops := (O1.take 118 ++ ob :: [oa]).toArray) (Q := Exit.then (Code.ret.wp Try.prog (bodyPost Try.prog Try.f14 fun e w' => e = .returned (.slice (some ⟨w.heap.size, 0, none⟩) 118 118) ∧ w' = w.alloc (.cells docCells 23))) (bodyPost Try.prog Try.f14 fun e w' => e = .returned (.slice (some ⟨w.heap.size, 0, none⟩) 118 118) ∧ w' = w.alloc (.cells docCells 23))) [oa] [] (r2 w (w.alloc (.cells docCells 23)))
  rw [List.append_nil] at this
  exact this (wp_ret ⟨rfl, _, res w _, rfl, rfl⟩)
end Go.Proofs.Ytgmnmcaclpfknaa.RowsL
