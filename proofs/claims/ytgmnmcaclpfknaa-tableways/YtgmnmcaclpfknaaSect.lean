/- The program's seven tables: each lays its rows and hands them to through. -/
import Derived.Test.YtgmnmcaclpfknaaTab
import Derived.Test.YtgmnmcaclpfknaaBase
import Derived.Test.YtgmnmcaclpfknaaLit
namespace Go.Proofs.Ytgmnmcaclpfknaa.Sect
open Go.RowKit
open Go.Proofs.Ytgmnmcaclpfknaa.Tab
open Go.Proofs.Ytgmnmcaclpfknaa.Base
open Go.Proofs.Ytgmnmcaclpfknaa.Run
open Go.Proofs.Ytgmnmcaclpfknaa.Lit
set_option linter.unusedVariables false
set_option linter.unusedSimpArgs false
def cellsR (r : Rw) : List Value := [.string (mk r.name), .int .i64 r.arity, .int .i64 r.part, .int .i64 r.first, .int .i64 r.last, .int .i64 r.step]
def valR (r : Rw) : Value := .agg (cellsR r).toArray
def cellsOf (l : List Rw) : Array Value := ((l.map valR).flatMap fun v => v.cells.toList).toArray
def frame (l : List Rw) (Y : Value) (k : Nat) : Act := ⟨([Y, undef, Value.bool false] ++ ((l.take k).map valR ++ List.replicate (l.length + 3 - k) undef)).toArray, []⟩
def fin (l : List Rw) (Y S b x : Value) : Act := ⟨([Y, undef, b] ++ (l.map valR ++ [S, Y, x])).toArray, []⟩
def fin0 (l : List Rw) (Y S : Value) : Act := ⟨([Y, undef, Value.bool false] ++ (l.map valR ++ [S, undef, undef])).toArray, []⟩
theorem info : (Try.prog.info? 42).map (fun i => (i.zero.map (·.cells.size), i.size)) = some (some 6, 6) := by kernel_rfl
abbrev Sl (w : World) (n : Nat) : Value := .slice (some ⟨w.heap.size, 0, none⟩) n n
theorem wp_call {P : Program} {ops : Array Oper} {Q : Exit → Act → World → Prop} {o : Oper} {r : List Oper} {a : Act} {w : World} {f : FuncId} {args : Array Value} (hg : o.guard = none) (he : (execOp a.eval o).run P w = .ok (.enter f args) w) {R : Bool → World → Prop}
    (hc : Calls P f args w fun e w' => ∃ b, e = .returned (.bool b) ∧ R b w') (h : ∀ b w', R b w' → wpList P ops Q r (a.put o.dst (.bool b)) w') : wpList P ops Q (o :: r) a w := by
  unfold wpList
  rw [if_pos (by simp [Region.wanted, hg])]
  refine .inl ?_
  unfold Oper.wp
  rw [he]
  show Calls P f args w _
  refine hc.mono ?_
  rintro e w' ⟨b, rfl, hb⟩
  exact h b w' hb
namespace controlRows
noncomputable def O1 : List Oper := ops Try.f27 1
noncomputable def op0 : Oper := operNo Try.f27 0 0
noncomputable def ob : Oper := operNo Try.f27 1 7
noncomputable def om : Oper := operNo Try.f27 1 8
noncomputable def oc : Oper := operNo Try.f27 1 9
noncomputable def oa : Oper := operNo Try.f27 1 10
theorem shape : Try.f27.body = some (Code.seq (.region 0 [op0].toArray false) (.seq (.region 1 (O1.take 7 ++ ob :: [om, oc, oa]).toArray false) .ret)) := by kernel_rfl
theorem r0 (Y : Value) (w : World) : runTo Try.prog [op0].toArray [op0] ⟨#[Y] ++ Array.replicate (Try.f27.ntmps - #[Y].size) undef, []⟩ w = some (frame controlRows Y 0, w) := by kernel_rfl
theorem r1 (Y : Value) (w : World) : runTo Try.prog (O1.take 7 ++ ob :: [om, oc, oa]).toArray (O1.take 7) (frame controlRows Y 0) w = some (frame controlRows Y 7, w) := by kernel_rfl
theorem evs (Y : Value) : (parts 7 3).map (fun x => (x.1, (frame controlRows Y 7).eval x.2)) = ((controlRows.map valR).zipIdx 0).map fun x => (x.2, x.1) := by kernel_rfl
theorem sizes : (controlRows.map valR).all (fun v => v.cells.size == 6) = true := by kernel_rfl
theorem put1 (Y S : Value) : (frame controlRows Y 7).put ob.dst S = fin0 controlRows Y S := by kernel_rfl
theorem r2 (Y S : Value) (w : World) : runTo Try.prog (O1.take 7 ++ ob :: [om, oc, oa]).toArray [om] (fin0 controlRows Y S) w = some (fin controlRows Y S (.bool false) undef, w) := by kernel_rfl
theorem ent (Y S : Value) (w : World) : (execOp (fin controlRows Y S (.bool false) undef).eval oc).run Try.prog w = .ok (.enter 39 #[S, Y]) w := by kernel_rfl
theorem put2 (Y S : Value) (b : Bool) : (fin controlRows Y S (.bool false) undef).put oc.dst (.bool b) = fin controlRows Y S (.bool false) (.bool b) := by kernel_rfl
theorem r3 (Y S : Value) (b : Bool) (w : World) : runTo Try.prog (O1.take 7 ++ ob :: [om, oc, oa]).toArray [oa] (fin controlRows Y S (.bool false) (.bool b)) w = some (fin controlRows Y S (.bool b) (.bool b), w) := by kernel_rfl
theorem res (Y S : Value) (b : Bool) (w : World) : (results Try.f27 (fin controlRows Y S (.bool b) (.bool b)).tmps).run Try.prog w = .ok (.bool b) w := by kernel_rfl
theorem call (Y : Value) (w : World) (R : Bool → World → Prop) (h : Calls Try.prog 39 #[Sl w 7, Y] (w.alloc (.cells (cellsOf controlRows) 42)) fun e w' => ∃ b, e = .returned (.bool b) ∧ R b w') :
    Calls Try.prog 27 #[Y] w fun e w' => ∃ b, e = .returned (.bool b) ∧ R b w' := by
  refine calls_of_wp Try.func27 shape ?_
  refine lit_wp (a1 := frame controlRows Y 0) (a2 := frame controlRows Y 7) (r0 Y w) (r1 Y w) (by kernel_rfl) 56 42 7 3 6 (controlRows.map valR) (by kernel_rfl) Try.underlying56 info (by kernel_rfl) (by decide) (by decide) (by decide) sizes (evs Y) ?_
  rw [put1]
  refine wpList_run [om] [oc, oa] (r2 Y _ _) ?_
  refine wp_call (by kernel_rfl) (ent Y _ _) h fun b w' hb => ?_
  rw [put2]
  refine wpList_run [oa] [] (r3 Y _ b w') ?_
  exact wp_ret ⟨rfl, _, res Y _ b w', b, rfl, hb⟩
end controlRows
namespace stringRows
noncomputable def O1 : List Oper := ops Try.f28 1
noncomputable def op0 : Oper := operNo Try.f28 0 0
noncomputable def ob : Oper := operNo Try.f28 1 24
noncomputable def om : Oper := operNo Try.f28 1 25
noncomputable def oc : Oper := operNo Try.f28 1 26
noncomputable def oa : Oper := operNo Try.f28 1 27
theorem shape : Try.f28.body = some (Code.seq (.region 0 [op0].toArray false) (.seq (.region 1 (O1.take 24 ++ ob :: [om, oc, oa]).toArray false) .ret)) := by kernel_rfl
theorem r0 (Y : Value) (w : World) : runTo Try.prog [op0].toArray [op0] ⟨#[Y] ++ Array.replicate (Try.f28.ntmps - #[Y].size) undef, []⟩ w = some (frame stringRows Y 0, w) := by kernel_rfl
theorem r1 (Y : Value) (w : World) : runTo Try.prog (O1.take 24 ++ ob :: [om, oc, oa]).toArray (O1.take 24) (frame stringRows Y 0) w = some (frame stringRows Y 24, w) := by kernel_rfl
theorem evs (Y : Value) : (parts 24 3).map (fun x => (x.1, (frame stringRows Y 24).eval x.2)) = ((stringRows.map valR).zipIdx 0).map fun x => (x.2, x.1) := by kernel_rfl
theorem sizes : (stringRows.map valR).all (fun v => v.cells.size == 6) = true := by kernel_rfl
theorem put1 (Y S : Value) : (frame stringRows Y 24).put ob.dst S = fin0 stringRows Y S := by kernel_rfl
theorem r2 (Y S : Value) (w : World) : runTo Try.prog (O1.take 24 ++ ob :: [om, oc, oa]).toArray [om] (fin0 stringRows Y S) w = some (fin stringRows Y S (.bool false) undef, w) := by kernel_rfl
theorem ent (Y S : Value) (w : World) : (execOp (fin stringRows Y S (.bool false) undef).eval oc).run Try.prog w = .ok (.enter 39 #[S, Y]) w := by kernel_rfl
theorem put2 (Y S : Value) (b : Bool) : (fin stringRows Y S (.bool false) undef).put oc.dst (.bool b) = fin stringRows Y S (.bool false) (.bool b) := by kernel_rfl
theorem r3 (Y S : Value) (b : Bool) (w : World) : runTo Try.prog (O1.take 24 ++ ob :: [om, oc, oa]).toArray [oa] (fin stringRows Y S (.bool false) (.bool b)) w = some (fin stringRows Y S (.bool b) (.bool b), w) := by kernel_rfl
theorem res (Y S : Value) (b : Bool) (w : World) : (results Try.f28 (fin stringRows Y S (.bool b) (.bool b)).tmps).run Try.prog w = .ok (.bool b) w := by kernel_rfl
theorem call (Y : Value) (w : World) (R : Bool → World → Prop) (h : Calls Try.prog 39 #[Sl w 24, Y] (w.alloc (.cells (cellsOf stringRows) 42)) fun e w' => ∃ b, e = .returned (.bool b) ∧ R b w') :
    Calls Try.prog 28 #[Y] w fun e w' => ∃ b, e = .returned (.bool b) ∧ R b w' := by
  refine calls_of_wp Try.func28 shape ?_
  refine lit_wp (a1 := frame stringRows Y 0) (a2 := frame stringRows Y 24) (r0 Y w) (r1 Y w) (by kernel_rfl) 56 42 24 3 6 (stringRows.map valR) (by kernel_rfl) Try.underlying56 info (by kernel_rfl) (by decide) (by decide) (by decide) sizes (evs Y) ?_
  rw [put1]
  refine wpList_run [om] [oc, oa] (r2 Y _ _) ?_
  refine wp_call (by kernel_rfl) (ent Y _ _) h fun b w' hb => ?_
  rw [put2]
  refine wpList_run [oa] [] (r3 Y _ b w') ?_
  exact wp_ret ⟨rfl, _, res Y _ b w', b, rfl, hb⟩
end stringRows
namespace keyRows
noncomputable def O1 : List Oper := ops Try.f29 1
noncomputable def op0 : Oper := operNo Try.f29 0 0
noncomputable def ob : Oper := operNo Try.f29 1 25
noncomputable def om : Oper := operNo Try.f29 1 26
noncomputable def oc : Oper := operNo Try.f29 1 27
noncomputable def oa : Oper := operNo Try.f29 1 28
theorem shape : Try.f29.body = some (Code.seq (.region 0 [op0].toArray false) (.seq (.region 1 (O1.take 25 ++ ob :: [om, oc, oa]).toArray false) .ret)) := by kernel_rfl
theorem r0 (Y : Value) (w : World) : runTo Try.prog [op0].toArray [op0] ⟨#[Y] ++ Array.replicate (Try.f29.ntmps - #[Y].size) undef, []⟩ w = some (frame keyRows Y 0, w) := by kernel_rfl
theorem r1 (Y : Value) (w : World) : runTo Try.prog (O1.take 25 ++ ob :: [om, oc, oa]).toArray (O1.take 25) (frame keyRows Y 0) w = some (frame keyRows Y 25, w) := by kernel_rfl
theorem evs (Y : Value) : (parts 25 3).map (fun x => (x.1, (frame keyRows Y 25).eval x.2)) = ((keyRows.map valR).zipIdx 0).map fun x => (x.2, x.1) := by kernel_rfl
theorem sizes : (keyRows.map valR).all (fun v => v.cells.size == 6) = true := by kernel_rfl
theorem put1 (Y S : Value) : (frame keyRows Y 25).put ob.dst S = fin0 keyRows Y S := by kernel_rfl
theorem r2 (Y S : Value) (w : World) : runTo Try.prog (O1.take 25 ++ ob :: [om, oc, oa]).toArray [om] (fin0 keyRows Y S) w = some (fin keyRows Y S (.bool false) undef, w) := by kernel_rfl
theorem ent (Y S : Value) (w : World) : (execOp (fin keyRows Y S (.bool false) undef).eval oc).run Try.prog w = .ok (.enter 39 #[S, Y]) w := by kernel_rfl
theorem put2 (Y S : Value) (b : Bool) : (fin keyRows Y S (.bool false) undef).put oc.dst (.bool b) = fin keyRows Y S (.bool false) (.bool b) := by kernel_rfl
theorem r3 (Y S : Value) (b : Bool) (w : World) : runTo Try.prog (O1.take 25 ++ ob :: [om, oc, oa]).toArray [oa] (fin keyRows Y S (.bool false) (.bool b)) w = some (fin keyRows Y S (.bool b) (.bool b), w) := by kernel_rfl
theorem res (Y S : Value) (b : Bool) (w : World) : (results Try.f29 (fin keyRows Y S (.bool b) (.bool b)).tmps).run Try.prog w = .ok (.bool b) w := by kernel_rfl
theorem call (Y : Value) (w : World) (R : Bool → World → Prop) (h : Calls Try.prog 39 #[Sl w 25, Y] (w.alloc (.cells (cellsOf keyRows) 42)) fun e w' => ∃ b, e = .returned (.bool b) ∧ R b w') :
    Calls Try.prog 29 #[Y] w fun e w' => ∃ b, e = .returned (.bool b) ∧ R b w' := by
  refine calls_of_wp Try.func29 shape ?_
  refine lit_wp (a1 := frame keyRows Y 0) (a2 := frame keyRows Y 25) (r0 Y w) (r1 Y w) (by kernel_rfl) 56 42 25 3 6 (keyRows.map valR) (by kernel_rfl) Try.underlying56 info (by kernel_rfl) (by decide) (by decide) (by decide) sizes (evs Y) ?_
  rw [put1]
  refine wpList_run [om] [oc, oa] (r2 Y _ _) ?_
  refine wp_call (by kernel_rfl) (ent Y _ _) h fun b w' hb => ?_
  rw [put2]
  refine wpList_run [oa] [] (r3 Y _ b w') ?_
  exact wp_ret ⟨rfl, _, res Y _ b w', b, rfl, hb⟩
end keyRows
namespace listRows
noncomputable def O1 : List Oper := ops Try.f30 1
noncomputable def op0 : Oper := operNo Try.f30 0 0
noncomputable def ob : Oper := operNo Try.f30 1 16
noncomputable def om : Oper := operNo Try.f30 1 17
noncomputable def oc : Oper := operNo Try.f30 1 18
noncomputable def oa : Oper := operNo Try.f30 1 19
theorem shape : Try.f30.body = some (Code.seq (.region 0 [op0].toArray false) (.seq (.region 1 (O1.take 16 ++ ob :: [om, oc, oa]).toArray false) .ret)) := by kernel_rfl
theorem r0 (Y : Value) (w : World) : runTo Try.prog [op0].toArray [op0] ⟨#[Y] ++ Array.replicate (Try.f30.ntmps - #[Y].size) undef, []⟩ w = some (frame listRows Y 0, w) := by kernel_rfl
theorem r1 (Y : Value) (w : World) : runTo Try.prog (O1.take 16 ++ ob :: [om, oc, oa]).toArray (O1.take 16) (frame listRows Y 0) w = some (frame listRows Y 16, w) := by kernel_rfl
theorem evs (Y : Value) : (parts 16 3).map (fun x => (x.1, (frame listRows Y 16).eval x.2)) = ((listRows.map valR).zipIdx 0).map fun x => (x.2, x.1) := by kernel_rfl
theorem sizes : (listRows.map valR).all (fun v => v.cells.size == 6) = true := by kernel_rfl
theorem put1 (Y S : Value) : (frame listRows Y 16).put ob.dst S = fin0 listRows Y S := by kernel_rfl
theorem r2 (Y S : Value) (w : World) : runTo Try.prog (O1.take 16 ++ ob :: [om, oc, oa]).toArray [om] (fin0 listRows Y S) w = some (fin listRows Y S (.bool false) undef, w) := by kernel_rfl
theorem ent (Y S : Value) (w : World) : (execOp (fin listRows Y S (.bool false) undef).eval oc).run Try.prog w = .ok (.enter 39 #[S, Y]) w := by kernel_rfl
theorem put2 (Y S : Value) (b : Bool) : (fin listRows Y S (.bool false) undef).put oc.dst (.bool b) = fin listRows Y S (.bool false) (.bool b) := by kernel_rfl
theorem r3 (Y S : Value) (b : Bool) (w : World) : runTo Try.prog (O1.take 16 ++ ob :: [om, oc, oa]).toArray [oa] (fin listRows Y S (.bool false) (.bool b)) w = some (fin listRows Y S (.bool b) (.bool b), w) := by kernel_rfl
theorem res (Y S : Value) (b : Bool) (w : World) : (results Try.f30 (fin listRows Y S (.bool b) (.bool b)).tmps).run Try.prog w = .ok (.bool b) w := by kernel_rfl
theorem call (Y : Value) (w : World) (R : Bool → World → Prop) (h : Calls Try.prog 39 #[Sl w 16, Y] (w.alloc (.cells (cellsOf listRows) 42)) fun e w' => ∃ b, e = .returned (.bool b) ∧ R b w') :
    Calls Try.prog 30 #[Y] w fun e w' => ∃ b, e = .returned (.bool b) ∧ R b w' := by
  refine calls_of_wp Try.func30 shape ?_
  refine lit_wp (a1 := frame listRows Y 0) (a2 := frame listRows Y 16) (r0 Y w) (r1 Y w) (by kernel_rfl) 56 42 16 3 6 (listRows.map valR) (by kernel_rfl) Try.underlying56 info (by kernel_rfl) (by decide) (by decide) (by decide) sizes (evs Y) ?_
  rw [put1]
  refine wpList_run [om] [oc, oa] (r2 Y _ _) ?_
  refine wp_call (by kernel_rfl) (ent Y _ _) h fun b w' hb => ?_
  rw [put2]
  refine wpList_run [oa] [] (r3 Y _ b w') ?_
  exact wp_ret ⟨rfl, _, res Y _ b w', b, rfl, hb⟩
end listRows
namespace hashRows
noncomputable def O1 : List Oper := ops Try.f31 1
noncomputable def op0 : Oper := operNo Try.f31 0 0
noncomputable def ob : Oper := operNo Try.f31 1 14
noncomputable def om : Oper := operNo Try.f31 1 15
noncomputable def oc : Oper := operNo Try.f31 1 16
noncomputable def oa : Oper := operNo Try.f31 1 17
theorem shape : Try.f31.body = some (Code.seq (.region 0 [op0].toArray false) (.seq (.region 1 (O1.take 14 ++ ob :: [om, oc, oa]).toArray false) .ret)) := by kernel_rfl
theorem r0 (Y : Value) (w : World) : runTo Try.prog [op0].toArray [op0] ⟨#[Y] ++ Array.replicate (Try.f31.ntmps - #[Y].size) undef, []⟩ w = some (frame hashRows Y 0, w) := by kernel_rfl
theorem r1 (Y : Value) (w : World) : runTo Try.prog (O1.take 14 ++ ob :: [om, oc, oa]).toArray (O1.take 14) (frame hashRows Y 0) w = some (frame hashRows Y 14, w) := by kernel_rfl
theorem evs (Y : Value) : (parts 14 3).map (fun x => (x.1, (frame hashRows Y 14).eval x.2)) = ((hashRows.map valR).zipIdx 0).map fun x => (x.2, x.1) := by kernel_rfl
theorem sizes : (hashRows.map valR).all (fun v => v.cells.size == 6) = true := by kernel_rfl
theorem put1 (Y S : Value) : (frame hashRows Y 14).put ob.dst S = fin0 hashRows Y S := by kernel_rfl
theorem r2 (Y S : Value) (w : World) : runTo Try.prog (O1.take 14 ++ ob :: [om, oc, oa]).toArray [om] (fin0 hashRows Y S) w = some (fin hashRows Y S (.bool false) undef, w) := by kernel_rfl
theorem ent (Y S : Value) (w : World) : (execOp (fin hashRows Y S (.bool false) undef).eval oc).run Try.prog w = .ok (.enter 39 #[S, Y]) w := by kernel_rfl
theorem put2 (Y S : Value) (b : Bool) : (fin hashRows Y S (.bool false) undef).put oc.dst (.bool b) = fin hashRows Y S (.bool false) (.bool b) := by kernel_rfl
theorem r3 (Y S : Value) (b : Bool) (w : World) : runTo Try.prog (O1.take 14 ++ ob :: [om, oc, oa]).toArray [oa] (fin hashRows Y S (.bool false) (.bool b)) w = some (fin hashRows Y S (.bool b) (.bool b), w) := by kernel_rfl
theorem res (Y S : Value) (b : Bool) (w : World) : (results Try.f31 (fin hashRows Y S (.bool b) (.bool b)).tmps).run Try.prog w = .ok (.bool b) w := by kernel_rfl
theorem call (Y : Value) (w : World) (R : Bool → World → Prop) (h : Calls Try.prog 39 #[Sl w 14, Y] (w.alloc (.cells (cellsOf hashRows) 42)) fun e w' => ∃ b, e = .returned (.bool b) ∧ R b w') :
    Calls Try.prog 31 #[Y] w fun e w' => ∃ b, e = .returned (.bool b) ∧ R b w' := by
  refine calls_of_wp Try.func31 shape ?_
  refine lit_wp (a1 := frame hashRows Y 0) (a2 := frame hashRows Y 14) (r0 Y w) (r1 Y w) (by kernel_rfl) 56 42 14 3 6 (hashRows.map valR) (by kernel_rfl) Try.underlying56 info (by kernel_rfl) (by decide) (by decide) (by decide) sizes (evs Y) ?_
  rw [put1]
  refine wpList_run [om] [oc, oa] (r2 Y _ _) ?_
  refine wp_call (by kernel_rfl) (ent Y _ _) h fun b w' hb => ?_
  rw [put2]
  refine wpList_run [oa] [] (r3 Y _ b w') ?_
  exact wp_ret ⟨rfl, _, res Y _ b w', b, rfl, hb⟩
end hashRows
namespace setRows
noncomputable def O1 : List Oper := ops Try.f32 1
noncomputable def op0 : Oper := operNo Try.f32 0 0
noncomputable def ob : Oper := operNo Try.f32 1 15
noncomputable def om : Oper := operNo Try.f32 1 16
noncomputable def oc : Oper := operNo Try.f32 1 17
noncomputable def oa : Oper := operNo Try.f32 1 18
theorem shape : Try.f32.body = some (Code.seq (.region 0 [op0].toArray false) (.seq (.region 1 (O1.take 15 ++ ob :: [om, oc, oa]).toArray false) .ret)) := by kernel_rfl
theorem r0 (Y : Value) (w : World) : runTo Try.prog [op0].toArray [op0] ⟨#[Y] ++ Array.replicate (Try.f32.ntmps - #[Y].size) undef, []⟩ w = some (frame setRows Y 0, w) := by kernel_rfl
theorem r1 (Y : Value) (w : World) : runTo Try.prog (O1.take 15 ++ ob :: [om, oc, oa]).toArray (O1.take 15) (frame setRows Y 0) w = some (frame setRows Y 15, w) := by kernel_rfl
theorem evs (Y : Value) : (parts 15 3).map (fun x => (x.1, (frame setRows Y 15).eval x.2)) = ((setRows.map valR).zipIdx 0).map fun x => (x.2, x.1) := by kernel_rfl
theorem sizes : (setRows.map valR).all (fun v => v.cells.size == 6) = true := by kernel_rfl
theorem put1 (Y S : Value) : (frame setRows Y 15).put ob.dst S = fin0 setRows Y S := by kernel_rfl
theorem r2 (Y S : Value) (w : World) : runTo Try.prog (O1.take 15 ++ ob :: [om, oc, oa]).toArray [om] (fin0 setRows Y S) w = some (fin setRows Y S (.bool false) undef, w) := by kernel_rfl
theorem ent (Y S : Value) (w : World) : (execOp (fin setRows Y S (.bool false) undef).eval oc).run Try.prog w = .ok (.enter 39 #[S, Y]) w := by kernel_rfl
theorem put2 (Y S : Value) (b : Bool) : (fin setRows Y S (.bool false) undef).put oc.dst (.bool b) = fin setRows Y S (.bool false) (.bool b) := by kernel_rfl
theorem r3 (Y S : Value) (b : Bool) (w : World) : runTo Try.prog (O1.take 15 ++ ob :: [om, oc, oa]).toArray [oa] (fin setRows Y S (.bool false) (.bool b)) w = some (fin setRows Y S (.bool b) (.bool b), w) := by kernel_rfl
theorem res (Y S : Value) (b : Bool) (w : World) : (results Try.f32 (fin setRows Y S (.bool b) (.bool b)).tmps).run Try.prog w = .ok (.bool b) w := by kernel_rfl
theorem call (Y : Value) (w : World) (R : Bool → World → Prop) (h : Calls Try.prog 39 #[Sl w 15, Y] (w.alloc (.cells (cellsOf setRows) 42)) fun e w' => ∃ b, e = .returned (.bool b) ∧ R b w') :
    Calls Try.prog 32 #[Y] w fun e w' => ∃ b, e = .returned (.bool b) ∧ R b w' := by
  refine calls_of_wp Try.func32 shape ?_
  refine lit_wp (a1 := frame setRows Y 0) (a2 := frame setRows Y 15) (r0 Y w) (r1 Y w) (by kernel_rfl) 56 42 15 3 6 (setRows.map valR) (by kernel_rfl) Try.underlying56 info (by kernel_rfl) (by decide) (by decide) (by decide) sizes (evs Y) ?_
  rw [put1]
  refine wpList_run [om] [oc, oa] (r2 Y _ _) ?_
  refine wp_call (by kernel_rfl) (ent Y _ _) h fun b w' hb => ?_
  rw [put2]
  refine wpList_run [oa] [] (r3 Y _ b w') ?_
  exact wp_ret ⟨rfl, _, res Y _ b w', b, rfl, hb⟩
end setRows
namespace scoreRows
noncomputable def O1 : List Oper := ops Try.f33 1
noncomputable def op0 : Oper := operNo Try.f33 0 0
noncomputable def ob : Oper := operNo Try.f33 1 17
noncomputable def om : Oper := operNo Try.f33 1 18
noncomputable def oc : Oper := operNo Try.f33 1 19
noncomputable def oa : Oper := operNo Try.f33 1 20
theorem shape : Try.f33.body = some (Code.seq (.region 0 [op0].toArray false) (.seq (.region 1 (O1.take 17 ++ ob :: [om, oc, oa]).toArray false) .ret)) := by kernel_rfl
theorem r0 (Y : Value) (w : World) : runTo Try.prog [op0].toArray [op0] ⟨#[Y] ++ Array.replicate (Try.f33.ntmps - #[Y].size) undef, []⟩ w = some (frame scoreRows Y 0, w) := by kernel_rfl
theorem r1 (Y : Value) (w : World) : runTo Try.prog (O1.take 17 ++ ob :: [om, oc, oa]).toArray (O1.take 17) (frame scoreRows Y 0) w = some (frame scoreRows Y 17, w) := by kernel_rfl
theorem evs (Y : Value) : (parts 17 3).map (fun x => (x.1, (frame scoreRows Y 17).eval x.2)) = ((scoreRows.map valR).zipIdx 0).map fun x => (x.2, x.1) := by kernel_rfl
theorem sizes : (scoreRows.map valR).all (fun v => v.cells.size == 6) = true := by kernel_rfl
theorem put1 (Y S : Value) : (frame scoreRows Y 17).put ob.dst S = fin0 scoreRows Y S := by kernel_rfl
theorem r2 (Y S : Value) (w : World) : runTo Try.prog (O1.take 17 ++ ob :: [om, oc, oa]).toArray [om] (fin0 scoreRows Y S) w = some (fin scoreRows Y S (.bool false) undef, w) := by kernel_rfl
theorem ent (Y S : Value) (w : World) : (execOp (fin scoreRows Y S (.bool false) undef).eval oc).run Try.prog w = .ok (.enter 39 #[S, Y]) w := by kernel_rfl
theorem put2 (Y S : Value) (b : Bool) : (fin scoreRows Y S (.bool false) undef).put oc.dst (.bool b) = fin scoreRows Y S (.bool false) (.bool b) := by kernel_rfl
theorem r3 (Y S : Value) (b : Bool) (w : World) : runTo Try.prog (O1.take 17 ++ ob :: [om, oc, oa]).toArray [oa] (fin scoreRows Y S (.bool false) (.bool b)) w = some (fin scoreRows Y S (.bool b) (.bool b), w) := by kernel_rfl
theorem res (Y S : Value) (b : Bool) (w : World) : (results Try.f33 (fin scoreRows Y S (.bool b) (.bool b)).tmps).run Try.prog w = .ok (.bool b) w := by kernel_rfl
theorem call (Y : Value) (w : World) (R : Bool → World → Prop) (h : Calls Try.prog 39 #[Sl w 17, Y] (w.alloc (.cells (cellsOf scoreRows) 42)) fun e w' => ∃ b, e = .returned (.bool b) ∧ R b w') :
    Calls Try.prog 33 #[Y] w fun e w' => ∃ b, e = .returned (.bool b) ∧ R b w' := by
  refine calls_of_wp Try.func33 shape ?_
  refine lit_wp (a1 := frame scoreRows Y 0) (a2 := frame scoreRows Y 17) (r0 Y w) (r1 Y w) (by kernel_rfl) 56 42 17 3 6 (scoreRows.map valR) (by kernel_rfl) Try.underlying56 info (by kernel_rfl) (by decide) (by decide) (by decide) sizes (evs Y) ?_
  rw [put1]
  refine wpList_run [om] [oc, oa] (r2 Y _ _) ?_
  refine wp_call (by kernel_rfl) (ent Y _ _) h fun b w' hb => ?_
  rw [put2]
  refine wpList_run [oa] [] (r3 Y _ b w') ?_
  exact wp_ret ⟨rfl, _, res Y _ b w', b, rfl, hb⟩
end scoreRows
end Go.Proofs.Ytgmnmcaclpfknaa.Sect
