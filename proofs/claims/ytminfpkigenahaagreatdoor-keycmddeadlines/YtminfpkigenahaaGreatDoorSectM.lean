/- The program's seven tables: each lays its rows and hands them to through. A range over an iterator that turns memory of its own between two rounds: the relation R tells what it may turn. through: the rows of one table, one by one; rows: all of them, as an iterator. -/
import Derived.Test.YtminfpkigenahaaGreatDoorKMapM
import Derived.Test.YtminfpkigenahaaGreatDoorBaseM
import Derived.RangeFuncWrites
import Derived.RangeFuncNested
import Derived.Deep.LoopGhost
import Derived.TacticsInMore
import Derived.LoopNIn
import Derived.LoopIn
import Derived.OwnWalkIn
import Derived.Shelf.Abstract
section
namespace Go.Proofs.YtminfpkigenahaaGreatDoor.Sect
open Go.RowKit
open Go.Proofs.YtminfpkigenahaaGreatDoor.Tab
open Go.Proofs.YtminfpkigenahaaGreatDoor.Base
open Go.Proofs.YtminfpkigenahaaGreatDoor.Run
open Go.Proofs.YtminfpkigenahaaGreatDoor.Lit
set_option linter.unusedVariables false
set_option linter.unusedSimpArgs false
def cellsR (r : Rw) : List Value := [.string (mk r.name), .int .i64 r.arity, .int .i64 r.part, .int .i64 r.first, .int .i64 r.last, .int .i64 r.step]
def valR (r : Rw) : Value := .agg (cellsR r).toArray
def cellsOf (l : List Rw) : Array Value := ((l.map valR).flatMap fun v => v.cells.toList).toArray
def frame (l : List Rw) (Y : Value) (k : Nat) : Act := ⟨([Y, undef, Value.bool false] ++ ((l.take k).map valR ++ List.replicate (l.length + 3 - k) undef)).toArray, []⟩
def fin (l : List Rw) (Y S b x : Value) : Act := ⟨([Y, undef, b] ++ (l.map valR ++ [S, Y, x])).toArray, []⟩
def fin0 (l : List Rw) (Y S : Value) : Act := ⟨([Y, undef, Value.bool false] ++ (l.map valR ++ [S, undef, undef])).toArray, []⟩
theorem info : (Tryz.prog.info? 156).map (fun i => (i.zero.map (·.cells.size), i.size)) = some (some 6, 6) := by kernel_rfl
abbrev Sl (w : World) (n : Nat) : Value := .slice (some ⟨w.heap.size, 0, none⟩) n n
theorem wp_call {P : Program} {ops : Array Oper} {Q : Exit → Act → World → Prop} {o : Oper} {r : List Oper} {a : Act} {w : World} {f : FuncId} {args : Array Value} (hg : o.guard = none) (he : (execOp a.eval o).run P w = .ok (.enter f args) w) {R : Bool → World → Prop}
    (hc : Calls P f args w fun e w' => ∃ b, e = .returned (.bool b) ∧ R b w') (h : ∀ b w', R b w' → wpList P ops Q r (a.put o.dst (.bool b)) w') : wpList P ops Q (o :: r) a w := by
  unfold wpList
  rw [if_pos (by simp [Region.wanted, hg])]
  refine .inl ?_
  unfold Oper.wp
  rw [he]
  show Calls P f args w _
  refine hc.mono ?_
  rintro e w' ⟨b, rfl, hb⟩
  exact h b w' hb
namespace controlRows
noncomputable def O1 : List Oper := ops Tryz.f116 1
noncomputable def op0 : Oper := operNo Tryz.f116 0 0
noncomputable def ob : Oper := operNo Tryz.f116 1 7
noncomputable def om : Oper := operNo Tryz.f116 1 8
noncomputable def oc : Oper := operNo Tryz.f116 1 9
noncomputable def oa : Oper := operNo Tryz.f116 1 10
theorem shape : Tryz.f116.body = some (Code.seq (.region 0 [op0].toArray false) (.seq (.region 1 (O1.take 7 ++ ob :: [om, oc, oa]).toArray false) .ret)) := by kernel_rfl
theorem r0 (Y : Value) (w : World) : runTo Tryz.prog [op0].toArray [op0] ⟨#[Y] ++ Array.replicate (Tryz.f116.ntmps - #[Y].size) undef, []⟩ w = some (frame controlRows Y 0, w) := by kernel_rfl
theorem r1 (Y : Value) (w : World) : runTo Tryz.prog (O1.take 7 ++ ob :: [om, oc, oa]).toArray (O1.take 7) (frame controlRows Y 0) w = some (frame controlRows Y 7, w) := by kernel_rfl
theorem evs (Y : Value) : (parts 7 3).map (fun x => (x.1, (frame controlRows Y 7).eval x.2)) = ((controlRows.map valR).zipIdx 0).map fun x => (x.2, x.1) := by kernel_rfl
theorem sizes : (controlRows.map valR).all (fun v => v.cells.size == 6) = true := by kernel_rfl
theorem put1 (Y S : Value) : (frame controlRows Y 7).put ob.dst S = fin0 controlRows Y S := by kernel_rfl
theorem r2 (Y S : Value) (w : World) : runTo Tryz.prog (O1.take 7 ++ ob :: [om, oc, oa]).toArray [om] (fin0 controlRows Y S) w = some (fin controlRows Y S (.bool false) undef, w) := by kernel_rfl
theorem ent (Y S : Value) (w : World) : (execOp (fin controlRows Y S (.bool false) undef).eval oc).run Tryz.prog w = .ok (.enter 141 #[S, Y]) w := by kernel_rfl
theorem put2 (Y S : Value) (b : Bool) : (fin controlRows Y S (.bool false) undef).put oc.dst (.bool b) = fin controlRows Y S (.bool false) (.bool b) := by kernel_rfl
theorem r3 (Y S : Value) (b : Bool) (w : World) : runTo Tryz.prog (O1.take 7 ++ ob :: [om, oc, oa]).toArray [oa] (fin controlRows Y S (.bool false) (.bool b)) w = some (fin controlRows Y S (.bool b) (.bool b), w) := by kernel_rfl
theorem res (Y S : Value) (b : Bool) (w : World) : (results Tryz.f116 (fin controlRows Y S (.bool b) (.bool b)).tmps).run Tryz.prog w = .ok (.bool b) w := by kernel_rfl
theorem call (Y : Value) (w : World) (R : Bool → World → Prop) (h : Calls Tryz.prog 141 #[Sl w 7, Y] (w.alloc (.cells (cellsOf controlRows) 156)) fun e w' => ∃ b, e = .returned (.bool b) ∧ R b w') :
    Calls Tryz.prog 116 #[Y] w fun e w' => ∃ b, e = .returned (.bool b) ∧ R b w' := by
  refine calls_of_wp Tryz.func116 shape ?_
  refine lit_wp (a1 := frame controlRows Y 0) (a2 := frame controlRows Y 7) (r0 Y w) (r1 Y w) (by kernel_rfl) 197 156 7 3 6 (controlRows.map valR) (by kernel_rfl) Tryz.underlying197 info (by kernel_rfl) (by decide) (by decide) (by decide) sizes (evs Y) ?_
  rw [put1]
  refine wpList_run [om] [oc, oa] (r2 Y _ _) ?_
  refine wp_call (by kernel_rfl) (ent Y _ _) h fun b w' hb => ?_
  rw [put2]
  refine wpList_run [oa] [] (r3 Y _ b w') ?_
  exact wp_ret ⟨rfl, _, res Y _ b w', b, rfl, hb⟩
end controlRows
namespace stringRows
noncomputable def O1 : List Oper := ops Tryz.f117 1
noncomputable def op0 : Oper := operNo Tryz.f117 0 0
noncomputable def ob : Oper := operNo Tryz.f117 1 24
noncomputable def om : Oper := operNo Tryz.f117 1 25
noncomputable def oc : Oper := operNo Tryz.f117 1 26
noncomputable def oa : Oper := operNo Tryz.f117 1 27
theorem shape : Tryz.f117.body = some (Code.seq (.region 0 [op0].toArray false) (.seq (.region 1 (O1.take 24 ++ ob :: [om, oc, oa]).toArray false) .ret)) := by kernel_rfl
theorem r0 (Y : Value) (w : World) : runTo Tryz.prog [op0].toArray [op0] ⟨#[Y] ++ Array.replicate (Tryz.f117.ntmps - #[Y].size) undef, []⟩ w = some (frame stringRows Y 0, w) := by kernel_rfl
theorem r1 (Y : Value) (w : World) : runTo Tryz.prog (O1.take 24 ++ ob :: [om, oc, oa]).toArray (O1.take 24) (frame stringRows Y 0) w = some (frame stringRows Y 24, w) := by kernel_rfl
theorem evs (Y : Value) : (parts 24 3).map (fun x => (x.1, (frame stringRows Y 24).eval x.2)) = ((stringRows.map valR).zipIdx 0).map fun x => (x.2, x.1) := by kernel_rfl
theorem sizes : (stringRows.map valR).all (fun v => v.cells.size == 6) = true := by kernel_rfl
theorem put1 (Y S : Value) : (frame stringRows Y 24).put ob.dst S = fin0 stringRows Y S := by kernel_rfl
theorem r2 (Y S : Value) (w : World) : runTo Tryz.prog (O1.take 24 ++ ob :: [om, oc, oa]).toArray [om] (fin0 stringRows Y S) w = some (fin stringRows Y S (.bool false) undef, w) := by kernel_rfl
theorem ent (Y S : Value) (w : World) : (execOp (fin stringRows Y S (.bool false) undef).eval oc).run Tryz.prog w = .ok (.enter 141 #[S, Y]) w := by kernel_rfl
theorem put2 (Y S : Value) (b : Bool) : (fin stringRows Y S (.bool false) undef).put oc.dst (.bool b) = fin stringRows Y S (.bool false) (.bool b) := by kernel_rfl
theorem r3 (Y S : Value) (b : Bool) (w : World) : runTo Tryz.prog (O1.take 24 ++ ob :: [om, oc, oa]).toArray [oa] (fin stringRows Y S (.bool false) (.bool b)) w = some (fin stringRows Y S (.bool b) (.bool b), w) := by kernel_rfl
theorem res (Y S : Value) (b : Bool) (w : World) : (results Tryz.f117 (fin stringRows Y S (.bool b) (.bool b)).tmps).run Tryz.prog w = .ok (.bool b) w := by kernel_rfl
theorem call (Y : Value) (w : World) (R : Bool → World → Prop) (h : Calls Tryz.prog 141 #[Sl w 24, Y] (w.alloc (.cells (cellsOf stringRows) 156)) fun e w' => ∃ b, e = .returned (.bool b) ∧ R b w') :
    Calls Tryz.prog 117 #[Y] w fun e w' => ∃ b, e = .returned (.bool b) ∧ R b w' := by
  refine calls_of_wp Tryz.func117 shape ?_
  refine lit_wp (a1 := frame stringRows Y 0) (a2 := frame stringRows Y 24) (r0 Y w) (r1 Y w) (by kernel_rfl) 197 156 24 3 6 (stringRows.map valR) (by kernel_rfl) Tryz.underlying197 info (by kernel_rfl) (by decide) (by decide) (by decide) sizes (evs Y) ?_
  rw [put1]
  refine wpList_run [om] [oc, oa] (r2 Y _ _) ?_
  refine wp_call (by kernel_rfl) (ent Y _ _) h fun b w' hb => ?_
  rw [put2]
  refine wpList_run [oa] [] (r3 Y _ b w') ?_
  exact wp_ret ⟨rfl, _, res Y _ b w', b, rfl, hb⟩
end stringRows
namespace keyRows
noncomputable def O1 : List Oper := ops Tryz.f118 1
noncomputable def op0 : Oper := operNo Tryz.f118 0 0
noncomputable def ob : Oper := operNo Tryz.f118 1 25
noncomputable def om : Oper := operNo Tryz.f118 1 26
noncomputable def oc : Oper := operNo Tryz.f118 1 27
noncomputable def oa : Oper := operNo Tryz.f118 1 28
theorem shape : Tryz.f118.body = some (Code.seq (.region 0 [op0].toArray false) (.seq (.region 1 (O1.take 25 ++ ob :: [om, oc, oa]).toArray false) .ret)) := by kernel_rfl
theorem r0 (Y : Value) (w : World) : runTo Tryz.prog [op0].toArray [op0] ⟨#[Y] ++ Array.replicate (Tryz.f118.ntmps - #[Y].size) undef, []⟩ w = some (frame keyRows Y 0, w) := by kernel_rfl
theorem r1 (Y : Value) (w : World) : runTo Tryz.prog (O1.take 25 ++ ob :: [om, oc, oa]).toArray (O1.take 25) (frame keyRows Y 0) w = some (frame keyRows Y 25, w) := by kernel_rfl
theorem evs (Y : Value) : (parts 25 3).map (fun x => (x.1, (frame keyRows Y 25).eval x.2)) = ((keyRows.map valR).zipIdx 0).map fun x => (x.2, x.1) := by kernel_rfl
theorem sizes : (keyRows.map valR).all (fun v => v.cells.size == 6) = true := by kernel_rfl
theorem put1 (Y S : Value) : (frame keyRows Y 25).put ob.dst S = fin0 keyRows Y S := by kernel_rfl
theorem r2 (Y S : Value) (w : World) : runTo Tryz.prog (O1.take 25 ++ ob :: [om, oc, oa]).toArray [om] (fin0 keyRows Y S) w = some (fin keyRows Y S (.bool false) undef, w) := by kernel_rfl
theorem ent (Y S : Value) (w : World) : (execOp (fin keyRows Y S (.bool false) undef).eval oc).run Tryz.prog w = .ok (.enter 141 #[S, Y]) w := by kernel_rfl
theorem put2 (Y S : Value) (b : Bool) : (fin keyRows Y S (.bool false) undef).put oc.dst (.bool b) = fin keyRows Y S (.bool false) (.bool b) := by kernel_rfl
theorem r3 (Y S : Value) (b : Bool) (w : World) : runTo Tryz.prog (O1.take 25 ++ ob :: [om, oc, oa]).toArray [oa] (fin keyRows Y S (.bool false) (.bool b)) w = some (fin keyRows Y S (.bool b) (.bool b), w) := by kernel_rfl
theorem res (Y S : Value) (b : Bool) (w : World) : (results Tryz.f118 (fin keyRows Y S (.bool b) (.bool b)).tmps).run Tryz.prog w = .ok (.bool b) w := by kernel_rfl
theorem call (Y : Value) (w : World) (R : Bool → World → Prop) (h : Calls Tryz.prog 141 #[Sl w 25, Y] (w.alloc (.cells (cellsOf keyRows) 156)) fun e w' => ∃ b, e = .returned (.bool b) ∧ R b w') :
    Calls Tryz.prog 118 #[Y] w fun e w' => ∃ b, e = .returned (.bool b) ∧ R b w' := by
  refine calls_of_wp Tryz.func118 shape ?_
  refine lit_wp (a1 := frame keyRows Y 0) (a2 := frame keyRows Y 25) (r0 Y w) (r1 Y w) (by kernel_rfl) 197 156 25 3 6 (keyRows.map valR) (by kernel_rfl) Tryz.underlying197 info (by kernel_rfl) (by decide) (by decide) (by decide) sizes (evs Y) ?_
  rw [put1]
  refine wpList_run [om] [oc, oa] (r2 Y _ _) ?_
  refine wp_call (by kernel_rfl) (ent Y _ _) h fun b w' hb => ?_
  rw [put2]
  refine wpList_run [oa] [] (r3 Y _ b w') ?_
  exact wp_ret ⟨rfl, _, res Y _ b w', b, rfl, hb⟩
end keyRows
namespace listRows
noncomputable def O1 : List Oper := ops Tryz.f119 1
noncomputable def op0 : Oper := operNo Tryz.f119 0 0
noncomputable def ob : Oper := operNo Tryz.f119 1 16
noncomputable def om : Oper := operNo Tryz.f119 1 17
noncomputable def oc : Oper := operNo Tryz.f119 1 18
noncomputable def oa : Oper := operNo Tryz.f119 1 19
theorem shape : Tryz.f119.body = some (Code.seq (.region 0 [op0].toArray false) (.seq (.region 1 (O1.take 16 ++ ob :: [om, oc, oa]).toArray false) .ret)) := by kernel_rfl
theorem r0 (Y : Value) (w : World) : runTo Tryz.prog [op0].toArray [op0] ⟨#[Y] ++ Array.replicate (Tryz.f119.ntmps - #[Y].size) undef, []⟩ w = some (frame listRows Y 0, w) := by kernel_rfl
theorem r1 (Y : Value) (w : World) : runTo Tryz.prog (O1.take 16 ++ ob :: [om, oc, oa]).toArray (O1.take 16) (frame listRows Y 0) w = some (frame listRows Y 16, w) := by kernel_rfl
theorem evs (Y : Value) : (parts 16 3).map (fun x => (x.1, (frame listRows Y 16).eval x.2)) = ((listRows.map valR).zipIdx 0).map fun x => (x.2, x.1) := by kernel_rfl
theorem sizes : (listRows.map valR).all (fun v => v.cells.size == 6) = true := by kernel_rfl
theorem put1 (Y S : Value) : (frame listRows Y 16).put ob.dst S = fin0 listRows Y S := by kernel_rfl
theorem r2 (Y S : Value) (w : World) : runTo Tryz.prog (O1.take 16 ++ ob :: [om, oc, oa]).toArray [om] (fin0 listRows Y S) w = some (fin listRows Y S (.bool false) undef, w) := by kernel_rfl
theorem ent (Y S : Value) (w : World) : (execOp (fin listRows Y S (.bool false) undef).eval oc).run Tryz.prog w = .ok (.enter 141 #[S, Y]) w := by kernel_rfl
theorem put2 (Y S : Value) (b : Bool) : (fin listRows Y S (.bool false) undef).put oc.dst (.bool b) = fin listRows Y S (.bool false) (.bool b) := by kernel_rfl
theorem r3 (Y S : Value) (b : Bool) (w : World) : runTo Tryz.prog (O1.take 16 ++ ob :: [om, oc, oa]).toArray [oa] (fin listRows Y S (.bool false) (.bool b)) w = some (fin listRows Y S (.bool b) (.bool b), w) := by kernel_rfl
theorem res (Y S : Value) (b : Bool) (w : World) : (results Tryz.f119 (fin listRows Y S (.bool b) (.bool b)).tmps).run Tryz.prog w = .ok (.bool b) w := by kernel_rfl
theorem call (Y : Value) (w : World) (R : Bool → World → Prop) (h : Calls Tryz.prog 141 #[Sl w 16, Y] (w.alloc (.cells (cellsOf listRows) 156)) fun e w' => ∃ b, e = .returned (.bool b) ∧ R b w') :
    Calls Tryz.prog 119 #[Y] w fun e w' => ∃ b, e = .returned (.bool b) ∧ R b w' := by
  refine calls_of_wp Tryz.func119 shape ?_
  refine lit_wp (a1 := frame listRows Y 0) (a2 := frame listRows Y 16) (r0 Y w) (r1 Y w) (by kernel_rfl) 197 156 16 3 6 (listRows.map valR) (by kernel_rfl) Tryz.underlying197 info (by kernel_rfl) (by decide) (by decide) (by decide) sizes (evs Y) ?_
  rw [put1]
  refine wpList_run [om] [oc, oa] (r2 Y _ _) ?_
  refine wp_call (by kernel_rfl) (ent Y _ _) h fun b w' hb => ?_
  rw [put2]
  refine wpList_run [oa] [] (r3 Y _ b w') ?_
  exact wp_ret ⟨rfl, _, res Y _ b w', b, rfl, hb⟩
end listRows
namespace hashRows
noncomputable def O1 : List Oper := ops Tryz.f120 1
noncomputable def op0 : Oper := operNo Tryz.f120 0 0
noncomputable def ob : Oper := operNo Tryz.f120 1 14
noncomputable def om : Oper := operNo Tryz.f120 1 15
noncomputable def oc : Oper := operNo Tryz.f120 1 16
noncomputable def oa : Oper := operNo Tryz.f120 1 17
theorem shape : Tryz.f120.body = some (Code.seq (.region 0 [op0].toArray false) (.seq (.region 1 (O1.take 14 ++ ob :: [om, oc, oa]).toArray false) .ret)) := by kernel_rfl
theorem r0 (Y : Value) (w : World) : runTo Tryz.prog [op0].toArray [op0] ⟨#[Y] ++ Array.replicate (Tryz.f120.ntmps - #[Y].size) undef, []⟩ w = some (frame hashRows Y 0, w) := by kernel_rfl
theorem r1 (Y : Value) (w : World) : runTo Tryz.prog (O1.take 14 ++ ob :: [om, oc, oa]).toArray (O1.take 14) (frame hashRows Y 0) w = some (frame hashRows Y 14, w) := by kernel_rfl
theorem evs (Y : Value) : (parts 14 3).map (fun x => (x.1, (frame hashRows Y 14).eval x.2)) = ((hashRows.map valR).zipIdx 0).map fun x => (x.2, x.1) := by kernel_rfl
theorem sizes : (hashRows.map valR).all (fun v => v.cells.size == 6) = true := by kernel_rfl
theorem put1 (Y S : Value) : (frame hashRows Y 14).put ob.dst S = fin0 hashRows Y S := by kernel_rfl
theorem r2 (Y S : Value) (w : World) : runTo Tryz.prog (O1.take 14 ++ ob :: [om, oc, oa]).toArray [om] (fin0 hashRows Y S) w = some (fin hashRows Y S (.bool false) undef, w) := by kernel_rfl
theorem ent (Y S : Value) (w : World) : (execOp (fin hashRows Y S (.bool false) undef).eval oc).run Tryz.prog w = .ok (.enter 141 #[S, Y]) w := by kernel_rfl
theorem put2 (Y S : Value) (b : Bool) : (fin hashRows Y S (.bool false) undef).put oc.dst (.bool b) = fin hashRows Y S (.bool false) (.bool b) := by kernel_rfl
theorem r3 (Y S : Value) (b : Bool) (w : World) : runTo Tryz.prog (O1.take 14 ++ ob :: [om, oc, oa]).toArray [oa] (fin hashRows Y S (.bool false) (.bool b)) w = some (fin hashRows Y S (.bool b) (.bool b), w) := by kernel_rfl
theorem res (Y S : Value) (b : Bool) (w : World) : (results Tryz.f120 (fin hashRows Y S (.bool b) (.bool b)).tmps).run Tryz.prog w = .ok (.bool b) w := by kernel_rfl
theorem call (Y : Value) (w : World) (R : Bool → World → Prop) (h : Calls Tryz.prog 141 #[Sl w 14, Y] (w.alloc (.cells (cellsOf hashRows) 156)) fun e w' => ∃ b, e = .returned (.bool b) ∧ R b w') :
    Calls Tryz.prog 120 #[Y] w fun e w' => ∃ b, e = .returned (.bool b) ∧ R b w' := by
  refine calls_of_wp Tryz.func120 shape ?_
  refine lit_wp (a1 := frame hashRows Y 0) (a2 := frame hashRows Y 14) (r0 Y w) (r1 Y w) (by kernel_rfl) 197 156 14 3 6 (hashRows.map valR) (by kernel_rfl) Tryz.underlying197 info (by kernel_rfl) (by decide) (by decide) (by decide) sizes (evs Y) ?_
  rw [put1]
  refine wpList_run [om] [oc, oa] (r2 Y _ _) ?_
  refine wp_call (by kernel_rfl) (ent Y _ _) h fun b w' hb => ?_
  rw [put2]
  refine wpList_run [oa] [] (r3 Y _ b w') ?_
  exact wp_ret ⟨rfl, _, res Y _ b w', b, rfl, hb⟩
end hashRows
namespace setRows
noncomputable def O1 : List Oper := ops Tryz.f121 1
noncomputable def op0 : Oper := operNo Tryz.f121 0 0
noncomputable def ob : Oper := operNo Tryz.f121 1 15
noncomputable def om : Oper := operNo Tryz.f121 1 16
noncomputable def oc : Oper := operNo Tryz.f121 1 17
noncomputable def oa : Oper := operNo Tryz.f121 1 18
theorem shape : Tryz.f121.body = some (Code.seq (.region 0 [op0].toArray false) (.seq (.region 1 (O1.take 15 ++ ob :: [om, oc, oa]).toArray false) .ret)) := by kernel_rfl
theorem r0 (Y : Value) (w : World) : runTo Tryz.prog [op0].toArray [op0] ⟨#[Y] ++ Array.replicate (Tryz.f121.ntmps - #[Y].size) undef, []⟩ w = some (frame setRows Y 0, w) := by kernel_rfl
theorem r1 (Y : Value) (w : World) : runTo Tryz.prog (O1.take 15 ++ ob :: [om, oc, oa]).toArray (O1.take 15) (frame setRows Y 0) w = some (frame setRows Y 15, w) := by kernel_rfl
theorem evs (Y : Value) : (parts 15 3).map (fun x => (x.1, (frame setRows Y 15).eval x.2)) = ((setRows.map valR).zipIdx 0).map fun x => (x.2, x.1) := by kernel_rfl
theorem sizes : (setRows.map valR).all (fun v => v.cells.size == 6) = true := by kernel_rfl
theorem put1 (Y S : Value) : (frame setRows Y 15).put ob.dst S = fin0 setRows Y S := by kernel_rfl
theorem r2 (Y S : Value) (w : World) : runTo Tryz.prog (O1.take 15 ++ ob :: [om, oc, oa]).toArray [om] (fin0 setRows Y S) w = some (fin setRows Y S (.bool false) undef, w) := by kernel_rfl
theorem ent (Y S : Value) (w : World) : (execOp (fin setRows Y S (.bool false) undef).eval oc).run Tryz.prog w = .ok (.enter 141 #[S, Y]) w := by kernel_rfl
theorem put2 (Y S : Value) (b : Bool) : (fin setRows Y S (.bool false) undef).put oc.dst (.bool b) = fin setRows Y S (.bool false) (.bool b) := by kernel_rfl
theorem r3 (Y S : Value) (b : Bool) (w : World) : runTo Tryz.prog (O1.take 15 ++ ob :: [om, oc, oa]).toArray [oa] (fin setRows Y S (.bool false) (.bool b)) w = some (fin setRows Y S (.bool b) (.bool b), w) := by kernel_rfl
theorem res (Y S : Value) (b : Bool) (w : World) : (results Tryz.f121 (fin setRows Y S (.bool b) (.bool b)).tmps).run Tryz.prog w = .ok (.bool b) w := by kernel_rfl
theorem call (Y : Value) (w : World) (R : Bool → World → Prop) (h : Calls Tryz.prog 141 #[Sl w 15, Y] (w.alloc (.cells (cellsOf setRows) 156)) fun e w' => ∃ b, e = .returned (.bool b) ∧ R b w') :
    Calls Tryz.prog 121 #[Y] w fun e w' => ∃ b, e = .returned (.bool b) ∧ R b w' := by
  refine calls_of_wp Tryz.func121 shape ?_
  refine lit_wp (a1 := frame setRows Y 0) (a2 := frame setRows Y 15) (r0 Y w) (r1 Y w) (by kernel_rfl) 197 156 15 3 6 (setRows.map valR) (by kernel_rfl) Tryz.underlying197 info (by kernel_rfl) (by decide) (by decide) (by decide) sizes (evs Y) ?_
  rw [put1]
  refine wpList_run [om] [oc, oa] (r2 Y _ _) ?_
  refine wp_call (by kernel_rfl) (ent Y _ _) h fun b w' hb => ?_
  rw [put2]
  refine wpList_run [oa] [] (r3 Y _ b w') ?_
  exact wp_ret ⟨rfl, _, res Y _ b w', b, rfl, hb⟩
end setRows
namespace scoreRows
noncomputable def O1 : List Oper := ops Tryz.f122 1
noncomputable def op0 : Oper := operNo Tryz.f122 0 0
noncomputable def ob : Oper := operNo Tryz.f122 1 17
noncomputable def om : Oper := operNo Tryz.f122 1 18
noncomputable def oc : Oper := operNo Tryz.f122 1 19
noncomputable def oa : Oper := operNo Tryz.f122 1 20
theorem shape : Tryz.f122.body = some (Code.seq (.region 0 [op0].toArray false) (.seq (.region 1 (O1.take 17 ++ ob :: [om, oc, oa]).toArray false) .ret)) := by kernel_rfl
theorem r0 (Y : Value) (w : World) : runTo Tryz.prog [op0].toArray [op0] ⟨#[Y] ++ Array.replicate (Tryz.f122.ntmps - #[Y].size) undef, []⟩ w = some (frame scoreRows Y 0, w) := by kernel_rfl
theorem r1 (Y : Value) (w : World) : runTo Tryz.prog (O1.take 17 ++ ob :: [om, oc, oa]).toArray (O1.take 17) (frame scoreRows Y 0) w = some (frame scoreRows Y 17, w) := by kernel_rfl
theorem evs (Y : Value) : (parts 17 3).map (fun x => (x.1, (frame scoreRows Y 17).eval x.2)) = ((scoreRows.map valR).zipIdx 0).map fun x => (x.2, x.1) := by kernel_rfl
theorem sizes : (scoreRows.map valR).all (fun v => v.cells.size == 6) = true := by kernel_rfl
theorem put1 (Y S : Value) : (frame scoreRows Y 17).put ob.dst S = fin0 scoreRows Y S := by kernel_rfl
theorem r2 (Y S : Value) (w : World) : runTo Tryz.prog (O1.take 17 ++ ob :: [om, oc, oa]).toArray [om] (fin0 scoreRows Y S) w = some (fin scoreRows Y S (.bool false) undef, w) := by kernel_rfl
theorem ent (Y S : Value) (w : World) : (execOp (fin scoreRows Y S (.bool false) undef).eval oc).run Tryz.prog w = .ok (.enter 141 #[S, Y]) w := by kernel_rfl
theorem put2 (Y S : Value) (b : Bool) : (fin scoreRows Y S (.bool false) undef).put oc.dst (.bool b) = fin scoreRows Y S (.bool false) (.bool b) := by kernel_rfl
theorem r3 (Y S : Value) (b : Bool) (w : World) : runTo Tryz.prog (O1.take 17 ++ ob :: [om, oc, oa]).toArray [oa] (fin scoreRows Y S (.bool false) (.bool b)) w = some (fin scoreRows Y S (.bool b) (.bool b), w) := by kernel_rfl
theorem res (Y S : Value) (b : Bool) (w : World) : (results Tryz.f122 (fin scoreRows Y S (.bool b) (.bool b)).tmps).run Tryz.prog w = .ok (.bool b) w := by kernel_rfl
theorem call (Y : Value) (w : World) (R : Bool → World → Prop) (h : Calls Tryz.prog 141 #[Sl w 17, Y] (w.alloc (.cells (cellsOf scoreRows) 156)) fun e w' => ∃ b, e = .returned (.bool b) ∧ R b w') :
    Calls Tryz.prog 122 #[Y] w fun e w' => ∃ b, e = .returned (.bool b) ∧ R b w' := by
  refine calls_of_wp Tryz.func122 shape ?_
  refine lit_wp (a1 := frame scoreRows Y 0) (a2 := frame scoreRows Y 17) (r0 Y w) (r1 Y w) (by kernel_rfl) 197 156 17 3 6 (scoreRows.map valR) (by kernel_rfl) Tryz.underlying197 info (by kernel_rfl) (by decide) (by decide) (by decide) sizes (evs Y) ?_
  rw [put1]
  refine wpList_run [om] [oc, oa] (r2 Y _ _) ?_
  refine wp_call (by kernel_rfl) (ent Y _ _) h fun b w' hb => ?_
  rw [put2]
  refine wpList_run [oa] [] (r3 Y _ b w') ?_
  exact wp_ret ⟨rfl, _, res Y _ b w', b, rfl, hb⟩
end scoreRows
end Go.Proofs.YtminfpkigenahaaGreatDoor.Sect
end
section
namespace Go.Proofs.YtminfpkigenahaaGreatDoor.Range
open Go Go.RowKit
set_option linter.unusedVariables false
set_option linter.unusedSimpArgs false
/- the iterator's word: called in any later world, with an invariant of the caller's that abides R from there on -/
def SeqR {α : Type} (R : Nat → World → World → Prop) (n : Nat) (P : Program) (g : Nat) (lb : Array Value) (encs : α → Array Value) (Kp : World → World → Prop) (S Sp : List α → Prop) (N : Nat) (w : World) : Prop :=
  ∀ (l : Nat) (J Jx : List α → World → Prop) (W : World), Below w.heap.size w W → (∀ s A A', J s A → R W.heap.size A A' → J s A') → (∀ s A A', Jx s A → R W.heap.size A A' → Jx s A') →
    (∀ pre x W1, J pre W1 → pre.length < N → YieldAt Fence.wide (n - 1) P l (encs x) W1 fun e W' => (e = .returned (.bool true) ∧ J (pre ++ [x]) W' ∧ Kp W1 W') ∨ (e = .returned (.bool false) ∧ Jx (pre ++ [x]) W')) →
    J [] W → Calls P g (#[.func (.yield l) #[] #[]] ++ lb) W fun e W' => (∃ v, e = .returned v) ∧ ((∃ xs, S xs ∧ J xs W') ∨ ∃ pre, Sp pre ∧ Jx pre W')
/- the loop's record at D + 1, and the block of what is deferred at D -/
structure Book (D : Nat) (r : Loop) (W : World) : Prop where
  lp : W.heap[D + 1]? = some (.loop r)
  df : W.heap[D]? = some (.deferred (some []))
section
variable {D : Nat} {r r' : Loop} {W W' : World}
theorem Book.keep (h : Book D r W) (hk : ∀ (k : Nat) (o : Obj), W.heap[k]? = some o → o.isCells = false → D ≤ k → W'.heap[k]? = some o) : Book D r W' := ⟨hk _ _ h.lp rfl (by omega), hk _ _ h.df rfl (Nat.le_refl _)⟩
theorem Book.put (h : Book D r W) : Book D r' (W.putObj (D + 1) (.loop r')) := ⟨World.putObj_heap_same (Array.getElem?_eq_some_iff.1 h.lp).1, (World.putObj_heap_other (by omega)).trans h.df⟩
end
theorem range_own {α : Type} {n : Nat} {P : Program} {g : Operand} {ps : Array Tmp} {assign body : Code} {Q : Exit → Act → World → Prop} {a : Act} {w : World}
    (h1 : 1 ≤ n) {gf : Nat} {lb : Array Value} (hg : a.eval g = .func (.func gf) #[] lb) (eg : ∀ args w, (callFunc gf args).run P w = .ok (.enter gf args) w)
    {encs : α → Array Value} {Kp : World → World → Prop} {S Sp : List α → Prop} {N : Nat} {w0 : World} {R : Nat → World → World → Prop} (hseq : SeqR R (n - 1) P gf lb encs Kp S Sp N w0)
    (hb0 : Below w0.heap.size w0 w) (hps : ∀ x, (encs x).size = ps.size)
    (hRo : ∀ (B : Nat) (A A' : World) (k : Nat) (o : Obj), R B A A' → A.heap[k]? = some o → o.isCells = false → A'.heap[k]? = some o)
    (hKt : ∀ {A B C : World}, Kp A B → Kp B C → Kp A C) (hKb : ∀ (W : World) (k : Nat) (o o' : Obj), w.heap.size ≤ k → W.heap[k]? = some o → o.isCells = false → Kp W (W.putObj k o'))
    (I : List α → World → Prop) (Ix : Code → List α → World → Prop) (hI : OwnFrom w.heap.size I) (hIx : ∀ c, OwnFrom w.heap.size (Ix c))
    (hIR : ∀ s A A', I s A → R (w.heap.size + 2) A A' → I s A') (hIxR : ∀ c s A A', Ix c s A → R (w.heap.size + 2) A A' → Ix c s A')
    (h0 : I [] w) (a₁ : α → World → Act) (A : α → World → World) (hA : ∀ x W, Below W.heap.size W (A x W)) (hAI : ∀ pre x W, I pre W → I pre (A x W)) (hAK : ∀ pre x W, I pre W → Kp W (A x W))
    (hassign : ∀ (l : Nat) (x : α) (W : World) (K : Act → World → Prop), K (a₁ x W) (A x W) →
      assign.wpIn (Fence.wide.inRound l) (n - 1 - 1) P (Exit.then K (fun _ _ _ => False)) { tmps := (ps.zip (encs x)).foldl (fun t (p, v) => t.setIfInBounds p v) a.tmps, defers := [] } W)
    (hbody : ∀ (l : Nat) (pre : List α) (x : α) (W V : World), w.heap.size ≤ W.heap.size → I pre V → pre.length < N → V.heap.size = (A x W).heap.size → (∀ k, W.heap.size ≤ k → V.heap[k]? = (A x W).heap[k]?) → body.wpIn (Fence.wide.inRound l) (n - 1 - 1) P (ownPostG w.heap.size Kp I Ix (pre ++ [x]) V) (a₁ x W) V)
    (hdone : ∀ (D : Nat) (xs : List α) (W : World), w.heap.size ≤ D → S xs → I xs W → W.heap[D]? = some (.deferred (some [])) → Q .normal { a with defers := { target := .collected D, args := #[] } :: a.defers } W)
    (hstop : ∀ (D : Nat) (c : Code) (pre : List α) (W : World), w.heap.size ≤ D → Sp pre → Ix c pre W → W.heap[D]? = some (.deferred (some [])) → c.wpIn Fence.wide n P Q { a with defers := { target := .collected D, args := #[] } :: a.defers } W) :
    (Code.rangeFunc g ps assign body).wpIn Fence.wide n P Q a w := by
  refine wpIn_rangeFunc fun fn hfn => ?_
  obtain ⟨B, hB⟩ : ∃ B, B = w.heap.size := ⟨_, rfl⟩
  obtain ⟨lr, hlr⟩ : ∃ lr : LoopState → Option Code → Loop, ∀ st pe, lr st pe = { state := st, pending := pe, fn, tmps := a.tmps, params := ps, assign, body, defers := B } := ⟨fun st pe => _, fun _ _ => rfl⟩
  obtain ⟨V, hV⟩ : ∃ V, V = (w.alloc (.deferred (some []))).alloc (.loop (lr .ready none)) := ⟨_, rfl⟩
  have sV : V.heap.size = B + 2 := by rw [hV, hB]; simp
  have kV : Book B (lr .ready none) V := by
    refine ⟨?_, ?_⟩
    · rw [hV, hB]; have := World.alloc_heap_new (w.alloc (.deferred (some []))) (.loop (lr .ready none)); rwa [World.size_alloc] at this
    · rw [hV, hB, Below.heap_alloc _ _ _ (by simp)]; exact World.alloc_heap_new w _
  have iV : I [] V := by rw [hV]; exact hI.alloc _ (hI.alloc _ h0)
  have bV : Below w0.heap.size w0 V := hb0.trans (by rw [hV]; exact (((Below.refl _ w).alloc (Nat.le_refl _) _).alloc (by simp) _).mono hb0.size)
  refine ⟨B + 1, [{ target := .collected B, args := #[] }], V, { target := .fn (.func gf) lb, args := #[.func (.yield (B + 1)) #[] #[]] }, V, gf, #[.func (.yield (B + 1)) #[] #[]] ++ lb, V, ?_, ?_, fun _ _ => trivial, ?_, fun _ => h1, ?_⟩
  · rw [hV, hlr, hB]; exact run_enterLoop_outer _ _ _ _ _
  · simp only [resolve, hg]
    simp [go_sem]
  · simp [invoke, go_sem, eg]
  · refine callsIn_wide.2 ((hseq (B + 1) (fun pre W => I pre W ∧ Book B (lr .ready none) W) (fun pre W => ∃ c, Ix c pre W ∧ Book B (lr .done (some c)) W) V bV (fun s A A' hs hr => ?_) (fun s A A' hs hr => ?_) ?_ ⟨iV, kV⟩).mono ?_)
    · rw [sV, hB] at hr
      exact ⟨hIR s A A' hs.1 hr, hs.2.keep fun k o hk ho _ => hRo _ _ _ k o hr hk ho⟩
    · rw [sV, hB] at hr
      obtain ⟨c, hc, bk⟩ := hs
      exact ⟨c, hIxR c s A A' hc hr, bk.keep fun k o hk ho _ => hRo _ _ _ k o hr hk ho⟩
    · rintro pre x W ⟨hi, bk⟩ hlen
      have hy := run_yield (P := P) (args := encs x) bk.lp (by rw [hlr]; exact hps x)
      rw [hlr] at hy
      have hlB : B + 1 < W.heap.size := (Array.getElem?_eq_some_iff.1 bk.lp).1
      have bkA : Book B (lr .ready none) (A x W) := bk.keep fun k o hk ho _ => ((hA x W).block k (Array.getElem?_eq_some_iff.1 hk).1).trans hk
      refine ⟨fn, _, assign, body, hy, roundIn_of_wpIn hfn (hassign _ x W _ ⟨_, run_beginRound bkA.lp (by rw [hlr]), ?_⟩)⟩
      obtain ⟨W2, hW2⟩ : ∃ W2, W2 = (A x W).putObj (B + 1) (.loop { lr .ready none with state := .busy }) := ⟨_, rfl⟩
      rw [← hW2]
      have bk2 : Book B { lr .ready none with state := .busy } W2 := by rw [hW2]; exact bkA.put
      have kp2 : Kp W W2 := by rw [hW2]; exact hKt (hAK pre x W hi) (hKb _ _ _ _ (by omega) bkA.lp rfl)
      have i2 : I pre W2 := by rw [hW2]; exact hI.putObj _ (hAI _ _ _ hi) (by omega) bkA.lp rfl
      refine wpIn_mono (hbody _ pre x W W2 (by omega) i2 hlen (by rw [hW2]; simp [World.putObj]) (fun k hk => by rw [hW2]; exact World.putObj_heap_other (by omega))) ?_
      have fin : ∀ (jump : Option Code) (W3 : World), KeepsFrom w.heap.size W2 W3 → Book B { lr .ready none with state := .busy } W3 ∧
          (Instr.endRound (B + 1) jump).run P W3 = .ok (.bool jump.isNone) (W3.putObj (B + 1) (.loop (lr (if jump.isNone then .ready else .done) jump))) := fun jump W3 hk3 => by
        have bk3 : Book B { lr .ready none with state := .busy } W3 := bk2.keep fun k o hk ho hle => hk3.same k o (by omega) hk ho
        refine ⟨bk3, ?_⟩
        have e := run_endRound (P := P) jump bk3.lp
        rw [hlr] at e
        rw [hlr]
        exact e
      rintro e a3 W3 hp
      cases e with
      | normal =>
        obtain ⟨hk3, hkp3, hi3⟩ := hp
        obtain ⟨bk3, hr3⟩ := fin none W3 hk3
        exact ⟨_, _, hr3, .inl ⟨rfl, ⟨hI.putObj _ hi3 (by omega) bk3.lp rfl, bk3.put⟩, hKt (hKt kp2 hkp3) (hKb _ _ _ _ (by omega) bk3.lp rfl)⟩⟩
      | ret =>
        obtain ⟨hk3, hi3⟩ := hp
        obtain ⟨bk3, hr3⟩ := fin (some .ret) W3 hk3
        exact ⟨_, _, hr3, .inr ⟨rfl, .ret, (hIx _).putObj _ hi3 (by omega) bk3.lp rfl, bk3.put⟩⟩
      | exit id =>
        obtain ⟨hk3, hi3⟩ := hp
        obtain ⟨bk3, hr3⟩ := fin (some (.exit id)) W3 hk3
        exact ⟨_, _, hr3, .inr ⟨rfl, .exit id, (hIx _).putObj _ hi3 (by omega) bk3.lp rfl, bk3.put⟩⟩
      | goto t =>
        obtain ⟨hk3, hi3⟩ := hp
        obtain ⟨bk3, hr3⟩ := fin (some (.goto t)) W3 hk3
        exact ⟨_, _, hr3, .inr ⟨rfl, .goto t, (hIx _).putObj _ hi3 (by omega) bk3.lp rfl, bk3.put⟩⟩
      | panic ch => exact hp.elim
      | outgrown => exact hp.elim
    · rintro e W2 ⟨⟨v, rfl⟩, (⟨xs, hS, hi, bk⟩ | ⟨pre, hSp, c, hi, bk⟩)⟩
      · have hr := run_endLoop (P := P) bk.lp (by rw [hlr]; simp)
        rw [hlr] at hr
        exact ⟨none, _, hr, hdone B xs _ (by omega) hS (hI.putObj _ hi (by omega) bk.lp rfl) ((World.putObj_heap_other (by omega)).trans bk.df)⟩
      · have hr := run_endLoop (P := P) bk.lp (by rw [hlr]; simp)
        rw [hlr] at hr
        exact ⟨some c, _, hr, hstop B c pre _ (by omega) hSp ((hIx c).putObj _ hi (by omega) bk.lp rfl) ((World.putObj_heap_other (by omega)).trans bk.df)⟩
end Go.Proofs.YtminfpkigenahaaGreatDoor.Range
end
section
namespace Go.Proofs.YtminfpkigenahaaGreatDoor.Thr
open Go.RowKit
open Go.Proofs.YtminfpkigenahaaGreatDoor.Tab
open Go.Proofs.YtminfpkigenahaaGreatDoor.Base
open Go.Proofs.YtminfpkigenahaaGreatDoor.Sect
open Go.Proofs.YtminfpkigenahaaGreatDoor.Range
attribute [local go_sem] Oper.semAt_some
set_option linter.unusedVariables false
set_option linter.unusedSimpArgs false
/- a world that has grown -/
def Gw (B : Nat) (A A' : World) : Prop := Below A.heap.size A A'
/- what a round must leave: the rows -/
structure Kp (A A' : World) : Prop where
  size : A.heap.size ≤ A'.heap.size
  row : ∀ (k : Nat) (cs : Array Value) (fz : Nat × Nat), A.heap[k]? = some (.cells cs 156 fz) → A'.heap[k]? = A.heap[k]?
theorem Kp.trans {A B C : World} (h : Kp A B) (k : Kp B C) : Kp A C := ⟨Nat.le_trans h.size k.size, fun i cs fz e => by
  have q := h.row i cs fz e
  exact (k.row i cs fz (q.trans e)).trans q⟩
theorem Kp.of_below {A B : World} (h : Below A.heap.size A B) : Kp A B := ⟨h.size, fun k cs fz e => h.block k (lt_of e)⟩
theorem flat6 (f : Rw → List Value) (h : ∀ r, (f r).length = 6) : ∀ (l : List Rw) (k j : Nat) (hk : k < l.length), j < 6 → (l.flatMap f)[k * 6 + j]? = (f l[k])[j]?
  | [], k, j, hk, _ => by simp at hk
  | r :: l, 0, j, hk, hj => by
    rw [List.flatMap_cons, List.getElem?_append_left (by rw [h]; omega)]
    simp
  | r :: l, k + 1, j, hk, hj => by
    rw [List.flatMap_cons, List.getElem?_append_right (by rw [h]; omega), h, show (k + 1) * 6 + j - 6 = k * 6 + j by omega]
    exact flat6 f h l k j (by simpa using hk) hj
theorem cells_at (l : List Rw) (k j : Nat) (hk : k < l.length) (hj : j < 6) : (cellsOf l)[k * 6 + j]? = (cellsR l[k])[j]? := by
  unfold cellsOf
  rw [List.getElem?_toArray, List.flatMap_map]
  exact flat6 (fun r => (valR r).cells.toList) (fun r => rfl) l k j hk hj
theorem row_cells {W : World} {g : Nat} {l : List Rw} (h : W.heap[g]? = some (.cells (cellsOf l) 156 (0, 0))) (k : Nat) (hk : k < l.length) :
    W.cell? ⟨g, k * 6, none⟩ = some (.string (mk l[k].name)) ∧ W.cell? ⟨g, k * 6 + 1, none⟩ = some (.int .i64 l[k].arity) ∧ W.cell? ⟨g, k * 6 + 2, none⟩ = some (.int .i64 l[k].part) ∧ W.cell? ⟨g, k * 6 + 3, none⟩ = some (.int .i64 l[k].first) ∧ W.cell? ⟨g, k * 6 + 4, none⟩ = some (.int .i64 l[k].last) ∧ W.cell? ⟨g, k * 6 + 5, none⟩ = some (.int .i64 l[k].step) := by
  refine ⟨?_, ?_, ?_, ?_, ?_, ?_⟩
  · rw [Lib.cell_of_heap h]; exact cells_at l k 0 hk (by omega)
  all_goals (rw [Lib.cell_of_heap h, cells_at l k _ hk (by omega)]; rfl)
set_option maxHeartbeats 4000000 in
set_option maxRecDepth 100000 in
theorem through_call {n L N g : Nat} {l p0 : List Rw} {J Jx : List Rw → World → Prop} {W : World} (hl : l.length ≤ 118) (hg : W.heap[g]? = some (.cells (cellsOf l) 156 (0, 0)))
    (hJ : ∀ s A A', J s A → Below A.heap.size A A' → J s A')
    (hY : ∀ pre x W1, J pre W1 → pre.length < N → YieldAt Fence.wide (n - 1) Tryz.prog L #[valR x] W1 fun e W' => (e = .returned (.bool true) ∧ J (pre ++ [x]) W' ∧ Kp W1 W') ∨ (e = .returned (.bool false) ∧ Jx (pre ++ [x]) W'))
    (h0 : J p0 W) (hN : p0.length + l.length ≤ N) :
    Calls Tryz.prog 141 #[.slice (some ⟨g, 0, none⟩) l.length l.length, .func (.yield L) #[] #[]] W fun e W' => ∃ b, e = .returned (.bool b) ∧ ((b = true ∧ J (p0 ++ l) W') ∨ (b = false ∧ ∃ k, k < l.length ∧ Jx (p0 ++ l.take (k + 1)) W')) := by
  have HY := hid_of hY
  have HJ := hid_of hJ
  have H0 := hid_of (And.intro h0 hg)
  have HN := hid_of hN
  clear hY hJ h0 hN hg
  go_enter Tryz.func141, Tryz.ntmps141
  go_wp2_with fail
  go_loopg [9] l.length (fun gk s9 wx => ∃ k : Nat, k ≤ l.length ∧ l.length ≤ k + gk ∧ s9 = .int .i64 (k : Int) ∧ Hid (J (p0 ++ l.take k) wx ∧ wx.heap[g]? = some (.cells (cellsOf l) 156 (0, 0))))
  case atStart => exact ⟨0, by omega, by omega, rfl, hid_of (by simpa using H0.out)⟩
  case round =>
    obtain ⟨k, hk, hgk, rfl, I⟩ := hrel
    refine (wpIn_wide (n := n)).1 ?_
    by_cases hlt : k < l.length
    · obtain ⟨g', rfl⟩ : ∃ g', gk = g' + 1 := ⟨gk - 1, by omega⟩
      obtain ⟨c0, c1, c2, c3, c4, c5⟩ := row_cells I.out.2 k hlt
      obtain ⟨x, hx⟩ : ∃ x, x = l[k] := ⟨_, rfl⟩
      rw [← hx] at c0 c1 c2 c3 c4 c5
      have e2 : IntKind.i64.wrap ((k : Int) + 1) = (k : Int) + 1 := IntWalk.i64_in _ (by omega)
      have g2 : (k : Int) < (l.length : Int) := by omega
      obtain ⟨ob, hob⟩ : ∃ ob : Obj, ob = .cells #[.string (mk x.name), .int .i64 x.arity, .int .i64 x.part, .int .i64 x.first, .int .i64 x.last, .int .i64 x.step] 156 := ⟨_, rfl⟩
      have bA : Below wr.heap.size wr (wr.alloc ob) := (Below.refl _ wr).alloc (Nat.le_refl _) _
      have htk : p0 ++ l.take k ++ [x] = p0 ++ l.take (k + 1) := by rw [hx, List.append_assoc, List.take_append_getElem hlt]
      obtain ⟨fn, tmps, assign, body, hy, hR⟩ := HY.out (p0 ++ l.take k) x (wr.alloc ob) (HJ.out _ _ _ I.out.1 bA) (by have := HN.out; rw [List.length_append, List.length_take]; omega)
      rw [htk] at hR
      have hgA : (wr.alloc ob).heap[g]? = some (.cells (cellsOf l) 156 (0, 0)) := (bA.block g (lt_of I.out.2)).trans I.out.2
      have HGA := hid_of hgA
      have HR := hid_of hR
      rw [show valR x = .agg #[.string (mk x.name), .int .i64 x.arity, .int .i64 x.part, .int .i64 x.first, .int .i64 x.last, .int .i64 x.step] from rfl] at hy
      subst hob
      clear hR hgA htk bA hx
      generalize mk x.name = X0 at *
      generalize x.arity = X1 at *
      generalize x.part = X2 at *
      generalize x.first = X3 at *
      generalize x.last = X4 at *
      generalize x.step = X5 at *
      gi_wp2_with fail
      refine ⟨(fun q => by cases q), HR.out.mono ?_⟩
      rintro r w4 (⟨rfl, j4, k4⟩ | ⟨rfl, j4⟩)
      · have HX := hid_of (And.intro j4 ((k4.row g _ _ HGA.out).trans HGA.out))
        clear j4 k4
        gi_wp2_with fail
        go_roundg g'
        case rel => exact ⟨k + 1, by omega, by omega, by rw [show ((k + 1 : Nat) : Int) = (k : Int) + 1 from by omega], HX⟩
        case measure => omega
      · have HX := hid_of j4
        clear j4
        gi_wp2_with fail
        refine bodyPost_ret (results_tmp rfl _ _ _) rfl ?_
        exact ⟨false, rfl, .inr ⟨rfl, k, hlt, HX.out⟩⟩
    · obtain rfl : k = l.length := by omega
      have gi : ¬ (l.length : Int) < (l.length : Int) := by omega
      gi_wp2_with fail
      go_wp2_with fail
      go_ret
      exact ⟨true, rfl, .inl ⟨rfl, by simpa using I.out.1⟩⟩
end Go.Proofs.YtminfpkigenahaaGreatDoor.Thr
end
