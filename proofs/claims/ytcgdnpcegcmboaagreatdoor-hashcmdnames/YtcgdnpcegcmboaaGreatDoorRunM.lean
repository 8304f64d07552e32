/- A row of operations that only make values and blocks, run by reckoning. A function that lays a table: values, then a row of them. The program's seven tables: each lays its rows and hands them to through. A range over an iterator that turns memory of its own between two rounds: the relation R tells what it may turn. -/
import Derived.Test.YtcgdnpcegcmboaaGreatDoorProg
import Derived.WalkKit
import Derived.Great.BuildSlice
import Derived.Test.YtcgdnpcegcmboaaGreatDoorHCmdM
import Derived.Test.YtcgdnpcegcmboaaGreatDoorBaseM
import Derived.RangeFuncWrites
import Derived.RangeFuncNested
section
namespace Go.Proofs.YtcgdnpcegcmboaaGreatDoor.Run
open Go Go.RowKit
set_option linter.unusedVariables false
set_option linter.unusedSimpArgs false
def runTo (P : Program) (ops : Array Oper) : List Oper → Act → World → Option (Act × World)
  | [], a, w => some (a, w)
  | o :: r, a, w =>
    if Region.wanted o (yielded ops a.tmps) then
      match (execOp a.eval o).run P w with
      | .ok (.value v) w' => runTo P ops r (a.put o.dst v) w'
      | _ => none
    else runTo P ops r (a.put o.dst undef) w
theorem wpList_run {P : Program} {ops : Array Oper} {Q : Exit → Act → World → Prop} : ∀ (l r : List Oper) {a a' : Act} {w w' : World}, runTo P ops l a w = some (a', w') → wpList P ops Q r a' w' → wpList P ops Q (l ++ r) a w
  | [], r, a, a', w, w', h, k => by
    simp only [runTo, Option.some.injEq, Prod.mk.injEq] at h
    obtain ⟨rfl, rfl⟩ := h
    exact k
  | o :: l, r, a, a', w, w', h, k => by
    unfold runTo at h
    show wpList P ops Q (o :: (l ++ r)) a w
    unfold wpList
    split at h
    · rename_i hw
      rw [if_pos hw]
      refine .inl ?_
      unfold Oper.wp
      split at h
      · rename_i v w1 e
        rw [e]
        exact wpList_run l r h k
      · cases h
    · rename_i hw
      rw [if_neg hw]
      exact wpList_run l r h k
theorem wp_run {P : Program} {Q : Exit → Act → World → Prop} {id : Nat} {l r : List Oper} {a a' : Act} {w w' : World} (h : runTo P (l ++ r).toArray l a w = some (a', w')) (k : wpList P (l ++ r).toArray Q r a' w') : (Code.region id (l ++ r).toArray false).wp P Q a w :=
  wp_region_lit (wpList_run l r h k)
def runRet (P : Program) : Code → Act → World → Option (Act × World)
  | .seq (.region _ ops false) y, a, w =>
    match runTo P ops ops.toList a w with
    | some (a', w') => runRet P y a' w'
    | none => none
  | .ret, a, w => some (a, w)
  | _, _, _ => none
theorem wp_ret_run {P : Program} {Q : Exit → Act → World → Prop} : ∀ (c : Code) {a a' : Act} {w w' : World}, runRet P c a w = some (a', w') → Q .ret a' w' → c.wp P Q a w := by
  intro c a a' w w' h k
  induction c generalizing a w with
  | ret =>
    simp only [runRet, Option.some.injEq, Prod.mk.injEq] at h
    obtain ⟨rfl, rfl⟩ := h
    exact wp_ret k
  | seq x y _ ih =>
    cases x with
    | region id ops d =>
      cases d with
      | true => simp [runRet] at h
      | false =>
        simp only [runRet] at h
        split at h
        · rename_i a1 w1 e
          refine wp_seq (wp_region_list ?_)
          have := wpList_run (P := P) (ops := ops) (Q := Exit.then (y.wp P Q) Q) ops.toList [] e (ih h)
          rwa [List.append_nil] at this
        · cases h
    | _ => simp [runRet] at h
  | _ => simp [runRet] at h
theorem calls_run {P : Program} {f : FuncId} {fn : Func} {c : Code} {args : Array Value} {w w' : World} {a' : Act} {v : Value} {R : Ending → World → Prop} (hf : P.funcs[f]? = some fn) (hb : fn.body = some c)
    (h : runRet P c { tmps := args ++ Array.replicate (fn.ntmps - args.size) undef, defers := [] } w = some (a', w')) (hd : a'.defers = []) (hr : (results fn a'.tmps).run P w' = .ok v w') (hR : R (.returned v) w') : Calls P f args w R :=
  calls_of_wp hf hb (wp_ret_run c h ⟨hd, v, hr, hR⟩)
end Go.Proofs.YtcgdnpcegcmboaaGreatDoor.Run
end
section
namespace Go.Proofs.YtcgdnpcegcmboaaGreatDoor.Lit
open Go Go.RowKit
open Go.Proofs.YtcgdnpcegcmboaaGreatDoor.Run
set_option linter.unusedVariables false
set_option linter.unusedSimpArgs false
noncomputable def opsOf (c : Code) (k : Nat) : List Oper := match c, k with
  | .seq (.region _ ops _) _, 0 => ops.toList
  | .seq _ y, k + 1 => opsOf y k
  | _, _ => []
noncomputable def ops (f : Func) (k : Nat) : List Oper := opsOf (f.body.getD .skip) k
noncomputable def operNo (f : Func) (k i : Nat) : Oper := ((ops f k).drop i).headD { dst := none, op := .assign (.const undef), type := 0, pos := "", after := #[], guard := none }
def parts (n d : Nat) : List (Nat × Operand) := (List.range n).map fun i => (i, Operand.tmp (i + d))
theorem lit_wp {P : Program} {id0 id1 : Nat} {O0 O1 rest : List Oper} {o : Oper} {c : Code} {Q : Exit → Act → World → Prop} {a0 a1 a2 : Act} {w : World}
    (h0 : runTo P O0.toArray O0 a0 w = some (a1, w)) (h1 : runTo P (O1 ++ o :: rest).toArray O1 a1 w = some (a2, w)) (hg : o.guard = none) (t e : TypeId) (n d sz : Nat) (vs : List Value)
    (ho : o.op = .buildSlice t n (parts n d).toArray) (hu : P.underlying t = some (.slice e)) (hi : (P.info? e).map (fun i => (i.zero.map (·.cells.size), i.size)) = some (some sz, sz))
    (hn : vs.length = n) (hp : 0 < n) (hs : 0 < sz) (hsm : n * sz ≤ 2 ^ 24) (hv : vs.all (fun v => v.cells.size == sz) = true)
    (he : (parts n d).map (fun x => (x.1, a2.eval x.2)) = (vs.zipIdx 0).map fun x => (x.2, x.1))
    (h : wpList P (O1 ++ o :: rest).toArray (Exit.then (c.wp P Q) Q) rest (a2.put o.dst (.slice (some ⟨w.heap.size, 0, none⟩) n n)) (w.alloc (.cells (vs.flatMap fun v => v.cells.toList).toArray e))) :
    (Code.seq (.region id0 O0.toArray false) (.seq (.region id1 (O1 ++ o :: rest).toArray false) c)).wp P Q a0 w := by
  refine wp_seq (wp_region_lit ?_)
  have q0 := wpList_run (P := P) (ops := O0.toArray) (Q := Exit.then ((Code.seq (.region id1 (O1 ++ o :: rest).toArray false) c).wp P Q) Q) O0 [] h0
  rw [List.append_nil] at q0
  refine q0 (wp_seq (wp_region_lit (wpList_run O1 (o :: rest) h1 ?_)))
  cases hie : P.info? e with
  | none => simp [hie] at hi
  | some ie =>
    simp only [hie, Option.map_some, Option.some.injEq, Prod.mk.injEq] at hi
    obtain ⟨hz, hsz⟩ := hi
    cases hzz : ie.zero with
    | none => simp [hzz] at hz
    | some z =>
      refine wpList_buildSlice hg t e n _ ho _ ie z hu hie hzz (by rw [hsz]; omega) ?_ ?_ h
      · rw [hsz]
        have := Nat.mul_pos hp hs
        omega
      · rw [Array.toList_map]
        show Instr.fill _ _ ((parts n d).map fun x => (x.1, a2.eval x.2)) = _
        rw [he, hsz]
        refine Great.fill_whole hs vs _ (fun v hv' => ?_) (by simp [hn])
        exact eq_of_beq (List.all_eq_true.1 hv v hv')
end Go.Proofs.YtcgdnpcegcmboaaGreatDoor.Lit
end
section
namespace Go.Proofs.YtcgdnpcegcmboaaGreatDoor.Sect
open Go.RowKit
open Go.Proofs.YtcgdnpcegcmboaaGreatDoor.Tab
open Go.Proofs.YtcgdnpcegcmboaaGreatDoor.Base
open Go.Proofs.YtcgdnpcegcmboaaGreatDoor.Run
open Go.Proofs.YtcgdnpcegcmboaaGreatDoor.Lit
set_option linter.unusedVariables false
set_option linter.unusedSimpArgs false
def cellsR (r : Rw) : List Value := [.string (mk r.name), .int .i64 r.arity, .int .i64 r.part, .int .i64 r.first, .int .i64 r.last, .int .i64 r.step]
def valR (r : Rw) : Value := .agg (cellsR r).toArray
def cellsOf (l : List Rw) : Array Value := ((l.map valR).flatMap fun v => v.cells.toList).toArray
def frame (l : List Rw) (Y : Value) (k : Nat) : Act := ⟨([Y, undef, Value.bool false] ++ ((l.take k).map valR ++ List.replicate (l.length + 3 - k) undef)).toArray, []⟩
def fin (l : List Rw) (Y S b x : Value) : Act := ⟨([Y, undef, b] ++ (l.map valR ++ [S, Y, x])).toArray, []⟩
def fin0 (l : List Rw) (Y S : Value) : Act := ⟨([Y, undef, Value.bool false] ++ (l.map valR ++ [S, undef, undef])).toArray, []⟩
theorem info : (Tryz.prog.info? 176).map (fun i => (i.zero.map (·.cells.size), i.size)) = some (some 6, 6) := by kernel_rfl
abbrev Sl (w : World) (n : Nat) : Value := .slice (some ⟨w.heap.size, 0, none⟩) n n
theorem wp_call {P : Program} {ops : Array Oper} {Q : Exit → Act → World → Prop} {o : Oper} {r : List Oper} {a : Act} {w : World} {f : FuncId} {args : Array Value} (hg : o.guard = none) (he : (execOp a.eval o).run P w = .ok (.enter f args) w) {R : Bool → World → Prop}
    (hc : Calls P f args w fun e w' => ∃ b, e = .returned (.bool b) ∧ R b w') (h : ∀ b w', R b w' → wpList P ops Q r (a.put o.dst (.bool b)) w') : wpList P ops Q (o :: r) a w := by
  unfold wpList
  rw [if_pos (by simp [Region.wanted, hg])]
  refine .inl ?_
  unfold Oper.wp
  rw [he]
  show Calls P f args w _
  refine hc.mono ?_
  rintro e w' ⟨b, rfl, hb⟩
  exact h b w' hb
namespace controlRows
noncomputable def O1 : List Oper := ops Tryz.f159 1
noncomputable def op0 : Oper := operNo Tryz.f159 0 0
noncomputable def ob : Oper := operNo Tryz.f159 1 7
noncomputable def om : Oper := operNo Tryz.f159 1 8
noncomputable def oc : Oper := operNo Tryz.f159 1 9
noncomputable def oa : Oper := operNo Tryz.f159 1 10
theorem shape : Tryz.f159.body = some (Code.seq (.region 0 [op0].toArray false) (.seq (.region 1 (O1.take 7 ++ ob :: [om, oc, oa]).toArray false) .ret)) := by kernel_rfl
theorem r0 (Y : Value) (w : World) : runTo Tryz.prog [op0].toArray [op0] ⟨#[Y] ++ Array.replicate (Tryz.f159.ntmps - #[Y].size) undef, []⟩ w = some (frame controlRows Y 0, w) := by kernel_rfl
theorem r1 (Y : Value) (w : World) : runTo Tryz.prog (O1.take 7 ++ ob :: [om, oc, oa]).toArray (O1.take 7) (frame controlRows Y 0) w = some (frame controlRows Y 7, w) := by kernel_rfl
theorem evs (Y : Value) : (parts 7 3).map (fun x => (x.1, (frame controlRows Y 7).eval x.2)) = ((controlRows.map valR).zipIdx 0).map fun x => (x.2, x.1) := by kernel_rfl
theorem sizes : (controlRows.map valR).all (fun v => v.cells.size == 6) = true := by kernel_rfl
theorem put1 (Y S : Value) : (frame controlRows Y 7).put ob.dst S = fin0 controlRows Y S := by kernel_rfl
theorem r2 (Y S : Value) (w : World) : runTo Tryz.prog (O1.take 7 ++ ob :: [om, oc, oa]).toArray [om] (fin0 controlRows Y S) w = some (fin controlRows Y S (.bool false) undef, w) := by kernel_rfl
theorem ent (Y S : Value) (w : World) : (execOp (fin controlRows Y S (.bool false) undef).eval oc).run Tryz.prog w = .ok (.enter 186 #[S, Y]) w := by kernel_rfl
theorem put2 (Y S : Value) (b : Bool) : (fin controlRows Y S (.bool false) undef).put oc.dst (.bool b) = fin controlRows Y S (.bool false) (.bool b) := by kernel_rfl
theorem r3 (Y S : Value) (b : Bool) (w : World) : runTo Tryz.prog (O1.take 7 ++ ob :: [om, oc, oa]).toArray [oa] (fin controlRows Y S (.bool false) (.bool b)) w = some (fin controlRows Y S (.bool b) (.bool b), w) := by kernel_rfl
theorem res (Y S : Value) (b : Bool) (w : World) : (results Tryz.f159 (fin controlRows Y S (.bool b) (.bool b)).tmps).run Tryz.prog w = .ok (.bool b) w := by kernel_rfl
theorem call (Y : Value) (w : World) (R : Bool → World → Prop) (h : Calls Tryz.prog 186 #[Sl w 7, Y] (w.alloc (.cells (cellsOf controlRows) 176)) fun e w' => ∃ b, e = .returned (.bool b) ∧ R b w') :
    Calls Tryz.prog 159 #[Y] w fun e w' => ∃ b, e = .returned (.bool b) ∧ R b w' := by
  refine calls_of_wp Tryz.func159 shape ?_
  refine lit_wp (a1 := frame controlRows Y 0) (a2 := frame controlRows Y 7) (r0 Y w) (r1 Y w) (by kernel_rfl) 242 176 7 3 6 (controlRows.map valR) (by kernel_rfl) Tryz.underlying242 info (by kernel_rfl) (by decide) (by decide) (by decide) sizes (evs Y) ?_
  rw [put1]
  refine wpList_run [om] [oc, oa] (r2 Y _ _) ?_
  refine wp_call (by kernel_rfl) (ent Y _ _) h fun b w' hb => ?_
  rw [put2]
  refine wpList_run [oa] [] (r3 Y _ b w') ?_
  exact wp_ret ⟨rfl, _, res Y _ b w', b, rfl, hb⟩
end controlRows
namespace stringRows
noncomputable def O1 : List Oper := ops Tryz.f160 1
noncomputable def op0 : Oper := operNo Tryz.f160 0 0
noncomputable def ob : Oper := operNo Tryz.f160 1 24
noncomputable def om : Oper := operNo Tryz.f160 1 25
noncomputable def oc : Oper := operNo Tryz.f160 1 26
noncomputable def oa : Oper := operNo Tryz.f160 1 27
theorem shape : Tryz.f160.body = some (Code.seq (.region 0 [op0].toArray false) (.seq (.region 1 (O1.take 24 ++ ob :: [om, oc, oa]).toArray false) .ret)) := by kernel_rfl
theorem r0 (Y : Value) (w : World) : runTo Tryz.prog [op0].toArray [op0] ⟨#[Y] ++ Array.replicate (Tryz.f160.ntmps - #[Y].size) undef, []⟩ w = some (frame stringRows Y 0, w) := by kernel_rfl
theorem r1 (Y : Value) (w : World) : runTo Tryz.prog (O1.take 24 ++ ob :: [om, oc, oa]).toArray (O1.take 24) (frame stringRows Y 0) w = some (frame stringRows Y 24, w) := by kernel_rfl
theorem evs (Y : Value) : (parts 24 3).map (fun x => (x.1, (frame stringRows Y 24).eval x.2)) = ((stringRows.map valR).zipIdx 0).map fun x => (x.2, x.1) := by kernel_rfl
theorem sizes : (stringRows.map valR).all (fun v => v.cells.size == 6) = true := by kernel_rfl
theorem put1 (Y S : Value) : (frame stringRows Y 24).put ob.dst S = fin0 stringRows Y S := by kernel_rfl
theorem r2 (Y S : Value) (w : World) : runTo Tryz.prog (O1.take 24 ++ ob :: [om, oc, oa]).toArray [om] (fin0 stringRows Y S) w = some (fin stringRows Y S (.bool false) undef, w) := by kernel_rfl
theorem ent (Y S : Value) (w : World) : (execOp (fin stringRows Y S (.bool false) undef).eval oc).run Tryz.prog w = .ok (.enter 186 #[S, Y]) w := by kernel_rfl
theorem put2 (Y S : Value) (b : Bool) : (fin stringRows Y S (.bool false) undef).put oc.dst (.bool b) = fin stringRows Y S (.bool false) (.bool b) := by kernel_rfl
theorem r3 (Y S : Value) (b : Bool) (w : World) : runTo Tryz.prog (O1.take 24 ++ ob :: [om, oc, oa]).toArray [oa] (fin stringRows Y S (.bool false) (.bool b)) w = some (fin stringRows Y S (.bool b) (.bool b), w) := by kernel_rfl
theorem res (Y S : Value) (b : Bool) (w : World) : (results Tryz.f160 (fin stringRows Y S (.bool b) (.bool b)).tmps).run Tryz.prog w = .ok (.bool b) w := by kernel_rfl
theorem call (Y : Value) (w : World) (R : Bool → World → Prop) (h : Calls Tryz.prog 186 #[Sl w 24, Y] (w.alloc (.cells (cellsOf stringRows) 176)) fun e w' => ∃ b, e = .returned (.bool b) ∧ R b w') :
    Calls Tryz.prog 160 #[Y] w fun e w' => ∃ b, e = .returned (.bool b) ∧ R b w' := by
  refine calls_of_wp Tryz.func160 shape ?_
  refine lit_wp (a1 := frame stringRows Y 0) (a2 := frame stringRows Y 24) (r0 Y w) (r1 Y w) (by kernel_rfl) 242 176 24 3 6 (stringRows.map valR) (by kernel_rfl) Tryz.underlying242 info (by kernel_rfl) (by decide) (by decide) (by decide) sizes (evs Y) ?_
  rw [put1]
  refine wpList_run [om] [oc, oa] (r2 Y _ _) ?_
  refine wp_call (by kernel_rfl) (ent Y _ _) h fun b w' hb => ?_
  rw [put2]
  refine wpList_run [oa] [] (r3 Y _ b w') ?_
  exact wp_ret ⟨rfl, _, res Y _ b w', b, rfl, hb⟩
end stringRows
namespace keyRows
noncomputable def O1 : List Oper := ops Tryz.f161 1
noncomputable def op0 : Oper := operNo Tryz.f161 0 0
noncomputable def ob : Oper := operNo Tryz.f161 1 25
noncomputable def om : Oper := operNo Tryz.f161 1 26
noncomputable def oc : Oper := operNo Tryz.f161 1 27
noncomputable def oa : Oper := operNo Tryz.f161 1 28
theorem shape : Tryz.f161.body = some (Code.seq (.region 0 [op0].toArray false) (.seq (.region 1 (O1.take 25 ++ ob :: [om, oc, oa]).toArray false) .ret)) := by kernel_rfl
theorem r0 (Y : Value) (w : World) : runTo Tryz.prog [op0].toArray [op0] ⟨#[Y] ++ Array.replicate (Tryz.f161.ntmps - #[Y].size) undef, []⟩ w = some (frame keyRows Y 0, w) := by kernel_rfl
theorem r1 (Y : Value) (w : World) : runTo Tryz.prog (O1.take 25 ++ ob :: [om, oc, oa]).toArray (O1.take 25) (frame keyRows Y 0) w = some (frame keyRows Y 25, w) := by kernel_rfl
theorem evs (Y : Value) : (parts 25 3).map (fun x => (x.1, (frame keyRows Y 25).eval x.2)) = ((keyRows.map valR).zipIdx 0).map fun x => (x.2, x.1) := by kernel_rfl
theorem sizes : (keyRows.map valR).all (fun v => v.cells.size == 6) = true := by kernel_rfl
theorem put1 (Y S : Value) : (frame keyRows Y 25).put ob.dst S = fin0 keyRows Y S := by kernel_rfl
theorem r2 (Y S : Value) (w : World) : runTo Tryz.prog (O1.take 25 ++ ob :: [om, oc, oa]).toArray [om] (fin0 keyRows Y S) w = some (fin keyRows Y S (.bool false) undef, w) := by kernel_rfl
theorem ent (Y S : Value) (w : World) : (execOp (fin keyRows Y S (.bool false) undef).eval oc).run Tryz.prog w = .ok (.enter 186 #[S, Y]) w := by kernel_rfl
theorem put2 (Y S : Value) (b : Bool) : (fin keyRows Y S (.bool false) undef).put oc.dst (.bool b) = fin keyRows Y S (.bool false) (.bool b) := by kernel_rfl
theorem r3 (Y S : Value) (b : Bool) (w : World) : runTo Tryz.prog (O1.take 25 ++ ob :: [om, oc, oa]).toArray [oa] (fin keyRows Y S (.bool false) (.bool b)) w = some (fin keyRows Y S (.bool b) (.bool b), w) := by kernel_rfl
theorem res (Y S : Value) (b : Bool) (w : World) : (results Tryz.f161 (fin keyRows Y S (.bool b) (.bool b)).tmps).run Tryz.prog w = .ok (.bool b) w := by kernel_rfl
theorem call (Y : Value) (w : World) (R : Bool → World → Prop) (h : Calls Tryz.prog 186 #[Sl w 25, Y] (w.alloc (.cells (cellsOf keyRows) 176)) fun e w' => ∃ b, e = .returned (.bool b) ∧ R b w') :
    Calls Tryz.prog 161 #[Y] w fun e w' => ∃ b, e = .returned (.bool b) ∧ R b w' := by
  refine calls_of_wp Tryz.func161 shape ?_
  refine lit_wp (a1 := frame keyRows Y 0) (a2 := frame keyRows Y 25) (r0 Y w) (r1 Y w) (by kernel_rfl) 242 176 25 3 6 (keyRows.map valR) (by kernel_rfl) Tryz.underlying242 info (by kernel_rfl) (by decide) (by decide) (by decide) sizes (evs Y) ?_
  rw [put1]
  refine wpList_run [om] [oc, oa] (r2 Y _ _) ?_
  refine wp_call (by kernel_rfl) (ent Y _ _) h fun b w' hb => ?_
  rw [put2]
  refine wpList_run [oa] [] (r3 Y _ b w') ?_
  exact wp_ret ⟨rfl, _, res Y _ b w', b, rfl, hb⟩
end keyRows
namespace listRows
noncomputable def O1 : List Oper := ops Tryz.f162 1
noncomputable def op0 : Oper := operNo Tryz.f162 0 0
noncomputable def ob : Oper := operNo Tryz.f162 1 16
noncomputable def om : Oper := operNo Tryz.f162 1 17
noncomputable def oc : Oper := operNo Tryz.f162 1 18
noncomputable def oa : Oper := operNo Tryz.f162 1 19
theorem shape : Tryz.f162.body = some (Code.seq (.region 0 [op0].toArray false) (.seq (.region 1 (O1.take 16 ++ ob :: [om, oc, oa]).toArray false) .ret)) := by kernel_rfl
theorem r0 (Y : Value) (w : World) : runTo Tryz.prog [op0].toArray [op0] ⟨#[Y] ++ Array.replicate (Tryz.f162.ntmps - #[Y].size) undef, []⟩ w = some (frame listRows Y 0, w) := by kernel_rfl
theorem r1 (Y : Value) (w : World) : runTo Tryz.prog (O1.take 16 ++ ob :: [om, oc, oa]).toArray (O1.take 16) (frame listRows Y 0) w = some (frame listRows Y 16, w) := by kernel_rfl
theorem evs (Y : Value) : (parts 16 3).map (fun x => (x.1, (frame listRows Y 16).eval x.2)) = ((listRows.map valR).zipIdx 0).map fun x => (x.2, x.1) := by kernel_rfl
theorem sizes : (listRows.map valR).all (fun v => v.cells.size == 6) = true := by kernel_rfl
theorem put1 (Y S : Value) : (frame listRows Y 16).put ob.dst S = fin0 listRows Y S := by kernel_rfl
theorem r2 (Y S : Value) (w : World) : runTo Tryz.prog (O1.take 16 ++ ob :: [om, oc, oa]).toArray [om] (fin0 listRows Y S) w = some (fin listRows Y S (.bool false) undef, w) := by kernel_rfl
theorem ent (Y S : Value) (w : World) : (execOp (fin listRows Y S (.bool false) undef).eval oc).run Tryz.prog w = .ok (.enter 186 #[S, Y]) w := by kernel_rfl
theorem put2 (Y S : Value) (b : Bool) : (fin listRows Y S (.bool false) undef).put oc.dst (.bool b) = fin listRows Y S (.bool false) (.bool b) := by kernel_rfl
theorem r3 (Y S : Value) (b : Bool) (w : World) : runTo Tryz.prog (O1.take 16 ++ ob :: [om, oc, oa]).toArray [oa] (fin listRows Y S (.bool false) (.bool b)) w = some (fin listRows Y S (.bool b) (.bool b), w) := by kernel_rfl
theorem res (Y S : Value) (b : Bool) (w : World) : (results Tryz.f162 (fin listRows Y S (.bool b) (.bool b)).tmps).run Tryz.prog w = .ok (.bool b) w := by kernel_rfl
theorem call (Y : Value) (w : World) (R : Bool → World → Prop) (h : Calls Tryz.prog 186 #[Sl w 16, Y] (w.alloc (.cells (cellsOf listRows) 176)) fun e w' => ∃ b, e = .returned (.bool b) ∧ R b w') :
    Calls Tryz.prog 162 #[Y] w fun e w' => ∃ b, e = .returned (.bool b) ∧ R b w' := by
  refine calls_of_wp Tryz.func162 shape ?_
  refine lit_wp (a1 := frame listRows Y 0) (a2 := frame listRows Y 16) (r0 Y w) (r1 Y w) (by kernel_rfl) 242 176 16 3 6 (listRows.map valR) (by kernel_rfl) Tryz.underlying242 info (by kernel_rfl) (by decide) (by decide) (by decide) sizes (evs Y) ?_
  rw [put1]
  refine wpList_run [om] [oc, oa] (r2 Y _ _) ?_
  refine wp_call (by kernel_rfl) (ent Y _ _) h fun b w' hb => ?_
  rw [put2]
  refine wpList_run [oa] [] (r3 Y _ b w') ?_
  exact wp_ret ⟨rfl, _, res Y _ b w', b, rfl, hb⟩
end listRows
namespace hashRows
noncomputable def O1 : List Oper := ops Tryz.f163 1
noncomputable def op0 : Oper := operNo Tryz.f163 0 0
noncomputable def ob : Oper := operNo Tryz.f163 1 14
noncomputable def om : Oper := operNo Tryz.f163 1 15
noncomputable def oc : Oper := operNo Tryz.f163 1 16
noncomputable def oa : Oper := operNo Tryz.f163 1 17
theorem shape : Tryz.f163.body = some (Code.seq (.region 0 [op0].toArray false) (.seq (.region 1 (O1.take 14 ++ ob :: [om, oc, oa]).toArray false) .ret)) := by kernel_rfl
theorem r0 (Y : Value) (w : World) : runTo Tryz.prog [op0].toArray [op0] ⟨#[Y] ++ Array.replicate (Tryz.f163.ntmps - #[Y].size) undef, []⟩ w = some (frame hashRows Y 0, w) := by kernel_rfl
theorem r1 (Y : Value) (w : World) : runTo Tryz.prog (O1.take 14 ++ ob :: [om, oc, oa]).toArray (O1.take 14) (frame hashRows Y 0) w = some (frame hashRows Y 14, w) := by kernel_rfl
theorem evs (Y : Value) : (parts 14 3).map (fun x => (x.1, (frame hashRows Y 14).eval x.2)) = ((hashRows.map valR).zipIdx 0).map fun x => (x.2, x.1) := by kernel_rfl
theorem sizes : (hashRows.map valR).all (fun v => v.cells.size == 6) = true := by kernel_rfl
theorem put1 (Y S : Value) : (frame hashRows Y 14).put ob.dst S = fin0 hashRows Y S := by kernel_rfl
theorem r2 (Y S : Value) (w : World) : runTo Tryz.prog (O1.take 14 ++ ob :: [om, oc, oa]).toArray [om] (fin0 hashRows Y S) w = some (fin hashRows Y S (.bool false) undef, w) := by kernel_rfl
theorem ent (Y S : Value) (w : World) : (execOp (fin hashRows Y S (.bool false) undef).eval oc).run Tryz.prog w = .ok (.enter 186 #[S, Y]) w := by kernel_rfl
theorem put2 (Y S : Value) (b : Bool) : (fin hashRows Y S (.bool false) undef).put oc.dst (.bool b) = fin hashRows Y S (.bool false) (.bool b) := by kernel_rfl
theorem r3 (Y S : Value) (b : Bool) (w : World) : runTo Tryz.prog (O1.take 14 ++ ob :: [om, oc, oa]).toArray [oa] (fin hashRows Y S (.bool false) (.bool b)) w = some (fin hashRows Y S (.bool b) (.bool b), w) := by kernel_rfl
theorem res (Y S : Value) (b : Bool) (w : World) : (results Tryz.f163 (fin hashRows Y S (.bool b) (.bool b)).tmps).run Tryz.prog w = .ok (.bool b) w := by kernel_rfl
theorem call (Y : Value) (w : World) (R : Bool → World → Prop) (h : Calls Tryz.prog 186 #[Sl w 14, Y] (w.alloc (.cells (cellsOf hashRows) 176)) fun e w' => ∃ b, e = .returned (.bool b) ∧ R b w') :
    Calls Tryz.prog 163 #[Y] w fun e w' => ∃ b, e = .returned (.bool b) ∧ R b w' := by
  refine calls_of_wp Tryz.func163 shape ?_
  refine lit_wp (a1 := frame hashRows Y 0) (a2 := frame hashRows Y 14) (r0 Y w) (r1 Y w) (by kernel_rfl) 242 176 14 3 6 (hashRows.map valR) (by kernel_rfl) Tryz.underlying242 info (by kernel_rfl) (by decide) (by decide) (by decide) sizes (evs Y) ?_
  rw [put1]
  refine wpList_run [om] [oc, oa] (r2 Y _ _) ?_
  refine wp_call (by kernel_rfl) (ent Y _ _) h fun b w' hb => ?_
  rw [put2]
  refine wpList_run [oa] [] (r3 Y _ b w') ?_
  exact wp_ret ⟨rfl, _, res Y _ b w', b, rfl, hb⟩
end hashRows
namespace setRows
noncomputable def O1 : List Oper := ops Tryz.f164 1
noncomputable def op0 : Oper := operNo Tryz.f164 0 0
noncomputable def ob : Oper := operNo Tryz.f164 1 15
noncomputable def om : Oper := operNo Tryz.f164 1 16
noncomputable def oc : Oper := operNo Tryz.f164 1 17
noncomputable def oa : Oper := operNo Tryz.f164 1 18
theorem shape : Tryz.f164.body = some (Code.seq (.region 0 [op0].toArray false) (.seq (.region 1 (O1.take 15 ++ ob :: [om, oc, oa]).toArray false) .ret)) := by kernel_rfl
theorem r0 (Y : Value) (w : World) : runTo Tryz.prog [op0].toArray [op0] ⟨#[Y] ++ Array.replicate (Tryz.f164.ntmps - #[Y].size) undef, []⟩ w = some (frame setRows Y 0, w) := by kernel_rfl
theorem r1 (Y : Value) (w : World) : runTo Tryz.prog (O1.take 15 ++ ob :: [om, oc, oa]).toArray (O1.take 15) (frame setRows Y 0) w = some (frame setRows Y 15, w) := by kernel_rfl
theorem evs (Y : Value) : (parts 15 3).map (fun x => (x.1, (frame setRows Y 15).eval x.2)) = ((setRows.map valR).zipIdx 0).map fun x => (x.2, x.1) := by kernel_rfl
theorem sizes : (setRows.map valR).all (fun v => v.cells.size == 6) = true := by kernel_rfl
theorem put1 (Y S : Value) : (frame setRows Y 15).put ob.dst S = fin0 setRows Y S := by kernel_rfl
theorem r2 (Y S : Value) (w : World) : runTo Tryz.prog (O1.take 15 ++ ob :: [om, oc, oa]).toArray [om] (fin0 setRows Y S) w = some (fin setRows Y S (.bool false) undef, w) := by kernel_rfl
theorem ent (Y S : Value) (w : World) : (execOp (fin setRows Y S (.bool false) undef).eval oc).run Tryz.prog w = .ok (.enter 186 #[S, Y]) w := by kernel_rfl
theorem put2 (Y S : Value) (b : Bool) : (fin setRows Y S (.bool false) undef).put oc.dst (.bool b) = fin setRows Y S (.bool false) (.bool b) := by kernel_rfl
theorem r3 (Y S : Value) (b : Bool) (w : World) : runTo Tryz.prog (O1.take 15 ++ ob :: [om, oc, oa]).toArray [oa] (fin setRows Y S (.bool false) (.bool b)) w = some (fin setRows Y S (.bool b) (.bool b), w) := by kernel_rfl
theorem res (Y S : Value) (b : Bool) (w : World) : (results Tryz.f164 (fin setRows Y S (.bool b) (.bool b)).tmps).run Tryz.prog w = .ok (.bool b) w := by kernel_rfl
theorem call (Y : Value) (w : World) (R : Bool → World → Prop) (h : Calls Tryz.prog 186 #[Sl w 15, Y] (w.alloc (.cells (cellsOf setRows) 176)) fun e w' => ∃ b, e = .returned (.bool b) ∧ R b w') :
    Calls Tryz.prog 164 #[Y] w fun e w' => ∃ b, e = .returned (.bool b) ∧ R b w' := by
  refine calls_of_wp Tryz.func164 shape ?_
  refine lit_wp (a1 := frame setRows Y 0) (a2 := frame setRows Y 15) (r0 Y w) (r1 Y w) (by kernel_rfl) 242 176 15 3 6 (setRows.map valR) (by kernel_rfl) Tryz.underlying242 info (by kernel_rfl) (by decide) (by decide) (by decide) sizes (evs Y) ?_
  rw [put1]
  refine wpList_run [om] [oc, oa] (r2 Y _ _) ?_
  refine wp_call (by kernel_rfl) (ent Y _ _) h fun b w' hb => ?_
  rw [put2]
  refine wpList_run [oa] [] (r3 Y _ b w') ?_
  exact wp_ret ⟨rfl, _, res Y _ b w', b, rfl, hb⟩
end setRows
namespace scoreRows
noncomputable def O1 : List Oper := ops Tryz.f165 1
noncomputable def op0 : Oper := operNo Tryz.f165 0 0
noncomputable def ob : Oper := operNo Tryz.f165 1 17
noncomputable def om : Oper := operNo Tryz.f165 1 18
noncomputable def oc : Oper := operNo Tryz.f165 1 19
noncomputable def oa : Oper := operNo Tryz.f165 1 20
theorem shape : Tryz.f165.body = some (Code.seq (.region 0 [op0].toArray false) (.seq (.region 1 (O1.take 17 ++ ob :: [om, oc, oa]).toArray false) .ret)) := by kernel_rfl
theorem r0 (Y : Value) (w : World) : runTo Tryz.prog [op0].toArray [op0] ⟨#[Y] ++ Array.replicate (Tryz.f165.ntmps - #[Y].size) undef, []⟩ w = some (frame scoreRows Y 0, w) := by kernel_rfl
theorem r1 (Y : Value) (w : World) : runTo Tryz.prog (O1.take 17 ++ ob :: [om, oc, oa]).toArray (O1.take 17) (frame scoreRows Y 0) w = some (frame scoreRows Y 17, w) := by kernel_rfl
theorem evs (Y : Value) : (parts 17 3).map (fun x => (x.1, (frame scoreRows Y 17).eval x.2)) = ((scoreRows.map valR).zipIdx 0).map fun x => (x.2, x.1) := by kernel_rfl
theorem sizes : (scoreRows.map valR).all (fun v => v.cells.size == 6) = true := by kernel_rfl
theorem put1 (Y S : Value) : (frame scoreRows Y 17).put ob.dst S = fin0 scoreRows Y S := by kernel_rfl
theorem r2 (Y S : Value) (w : World) : runTo Tryz.prog (O1.take 17 ++ ob :: [om, oc, oa]).toArray [om] (fin0 scoreRows Y S) w = some (fin scoreRows Y S (.bool false) undef, w) := by kernel_rfl
theorem ent (Y S : Value) (w : World) : (execOp (fin scoreRows Y S (.bool false) undef).eval oc).run Tryz.prog w = .ok (.enter 186 #[S, Y]) w := by kernel_rfl
theorem put2 (Y S : Value) (b : Bool) : (fin scoreRows Y S (.bool false) undef).put oc.dst (.bool b) = fin scoreRows Y S (.bool false) (.bool b) := by kernel_rfl
theorem r3 (Y S : Value) (b : Bool) (w : World) : runTo Tryz.prog (O1.take 17 ++ ob :: [om, oc, oa]).toArray [oa] (fin scoreRows Y S (.bool false) (.bool b)) w = some (fin scoreRows Y S (.bool b) (.bool b), w) := by kernel_rfl
theorem res (Y S : Value) (b : Bool) (w : World) : (results Tryz.f165 (fin scoreRows Y S (.bool b) (.bool b)).tmps).run Tryz.prog w = .ok (.bool b) w := by kernel_rfl
theorem call (Y : Value) (w : World) (R : Bool → World → Prop) (h : Calls Tryz.prog 186 #[Sl w 17, Y] (w.alloc (.cells (cellsOf scoreRows) 176)) fun e w' => ∃ b, e = .returned (.bool b) ∧ R b w') :
    Calls Tryz.prog 165 #[Y] w fun e w' => ∃ b, e = .returned (.bool b) ∧ R b w' := by
  refine calls_of_wp Tryz.func165 shape ?_
  refine lit_wp (a1 := frame scoreRows Y 0) (a2 := frame scoreRows Y 17) (r0 Y w) (r1 Y w) (by kernel_rfl) 242 176 17 3 6 (scoreRows.map valR) (by kernel_rfl) Tryz.underlying242 info (by kernel_rfl) (by decide) (by decide) (by decide) sizes (evs Y) ?_
  rw [put1]
  refine wpList_run [om] [oc, oa] (r2 Y _ _) ?_
  refine wp_call (by kernel_rfl) (ent Y _ _) h fun b w' hb => ?_
  rw [put2]
  refine wpList_run [oa] [] (r3 Y _ b w') ?_
  exact wp_ret ⟨rfl, _, res Y _ b w', b, rfl, hb⟩
end scoreRows
end Go.Proofs.YtcgdnpcegcmboaaGreatDoor.Sect
end
section
namespace Go.Proofs.YtcgdnpcegcmboaaGreatDoor.Range
open Go Go.RowKit
set_option linter.unusedVariables false
set_option linter.unusedSimpArgs false
/- the iterator's word: called in any later world, with an invariant of the caller's that abides R from there on -/
def SeqR {α : Type} (R : Nat → World → World → Prop) (n : Nat) (P : Program) (g : Nat) (lb : Array Value) (encs : α → Array Value) (Kp : World → World → Prop) (S Sp : List α → Prop) (N : Nat) (w : World) : Prop :=
  ∀ (l : Nat) (J Jx : List α → World → Prop) (W : World), Below w.heap.size w W → (∀ s A A', J s A → R W.heap.size A A' → J s A') → (∀ s A A', Jx s A → R W.heap.size A A' → Jx s A') →
    (∀ pre x W1, J pre W1 → pre.length < N → YieldAt Fence.wide (n - 1) P l (encs x) W1 fun e W' => (e = .returned (.bool true) ∧ J (pre ++ [x]) W' ∧ Kp W1 W') ∨ (e = .returned (.bool false) ∧ Jx (pre ++ [x]) W')) →
    J [] W → Calls P g (#[.func (.yield l) #[] #[]] ++ lb) W fun e W' => (∃ v, e = .returned v) ∧ ((∃ xs, S xs ∧ J xs W') ∨ ∃ pre, Sp pre ∧ Jx pre W')
/- the loop's record at D + 1, and the block of what is deferred at D -/
structure Book (D : Nat) (r : Loop) (W : World) : Prop where
  lp : W.heap[D + 1]? = some (.loop r)
  df : W.heap[D]? = some (.deferred (some []))
section
variable {D : Nat} {r r' : Loop} {W W' : World}
theorem Book.keep (h : Book D r W) (hk : ∀ (k : Nat) (o : Obj), W.heap[k]? = some o → o.isCells = false → D ≤ k → W'.heap[k]? = some o) : Book D r W' := ⟨hk _ _ h.lp rfl (by omega), hk _ _ h.df rfl (Nat.le_refl _)⟩
theorem Book.put (h : Book D r W) : Book D r' (W.putObj (D + 1) (.loop r')) := ⟨World.putObj_heap_same (Array.getElem?_eq_some_iff.1 h.lp).1, (World.putObj_heap_other (by omega)).trans h.df⟩
end
theorem range_own {α : Type} {n : Nat} {P : Program} {g : Operand} {ps : Array Tmp} {assign body : Code} {Q : Exit → Act → World → Prop} {a : Act} {w : World}
    (h1 : 1 ≤ n) {gf : Nat} {lb : Array Value} (hg : a.eval g = .func (.func gf) #[] lb) (eg : ∀ args w, (callFunc gf args).run P w = .ok (.enter gf args) w)
    {encs : α → Array Value} {Kp : World → World → Prop} {S Sp : List α → Prop} {N : Nat} {w0 : World} {R : Nat → World → World → Prop} (hseq : SeqR R (n - 1) P gf lb encs Kp S Sp N w0)
    (hb0 : Below w0.heap.size w0 w) (hps : ∀ x, (encs x).size = ps.size)
    (hRo : ∀ (B : Nat) (A A' : World) (k : Nat) (o : Obj), R B A A' → A.heap[k]? = some o → o.isCells = false → A'.heap[k]? = some o)
    (hKt : ∀ {A B C : World}, Kp A B → Kp B C → Kp A C) (hKb : ∀ (W : World) (k : Nat) (o o' : Obj), w.heap.size ≤ k → W.heap[k]? = some o → o.isCells = false → Kp W (W.putObj k o'))
    (I : List α → World → Prop) (Ix : Code → List α → World → Prop) (hI : OwnFrom w.heap.size I) (hIx : ∀ c, OwnFrom w.heap.size (Ix c))
    (hIR : ∀ s A A', I s A → R (w.heap.size + 2) A A' → I s A') (hIxR : ∀ c s A A', Ix c s A → R (w.heap.size + 2) A A' → Ix c s A')
    (h0 : I [] w) (a₁ : α → World → Act) (A : α → World → World) (hA : ∀ x W, Below W.heap.size W (A x W)) (hAI : ∀ pre x W, I pre W → I pre (A x W)) (hAK : ∀ pre x W, I pre W → Kp W (A x W))
    (hassign : ∀ (l : Nat) (x : α) (W : World) (K : Act → World → Prop), K (a₁ x W) (A x W) →
      assign.wpIn (Fence.wide.inRound l) (n - 1 - 1) P (Exit.then K (fun _ _ _ => False)) { tmps := (ps.zip (encs x)).foldl (fun t (p, v) => t.setIfInBounds p v) a.tmps, defers := [] } W)
    (hbody : ∀ (l : Nat) (pre : List α) (x : α) (W V : World), w.heap.size ≤ W.heap.size → I pre V → pre.length < N → V.heap.size = (A x W).heap.size → (∀ k, W.heap.size ≤ k → V.heap[k]? = (A x W).heap[k]?) → body.wpIn (Fence.wide.inRound l) (n - 1 - 1) P (ownPostG w.heap.size Kp I Ix (pre ++ [x]) V) (a₁ x W) V)
    (hdone : ∀ (D : Nat) (xs : List α) (W : World), w.heap.size ≤ D → S xs → I xs W → W.heap[D]? = some (.deferred (some [])) → Q .normal { a with defers := { target := .collected D, args := #[] } :: a.defers } W)
    (hstop : ∀ (D : Nat) (c : Code) (pre : List α) (W : World), w.heap.size ≤ D → Sp pre → Ix c pre W → W.heap[D]? = some (.deferred (some [])) → c.wpIn Fence.wide n P Q { a with defers := { target := .collected D, args := #[] } :: a.defers } W) :
    (Code.rangeFunc g ps assign body).wpIn Fence.wide n P Q a w := by
  refine wpIn_rangeFunc fun fn hfn => ?_
  obtain ⟨B, hB⟩ : ∃ B, B = w.heap.size := ⟨_, rfl⟩
  obtain ⟨lr, hlr⟩ : ∃ lr : LoopState → Option Code → Loop, ∀ st pe, lr st pe = { state := st, pending := pe, fn, tmps := a.tmps, params := ps, assign, body, defers := B } := ⟨fun st pe => _, fun _ _ => rfl⟩
  obtain ⟨V, hV⟩ : ∃ V, V = (w.alloc (.deferred (some []))).alloc (.loop (lr .ready none)) := ⟨_, rfl⟩
  have sV : V.heap.size = B + 2 := by rw [hV, hB]; simp
  have kV : Book B (lr .ready none) V := by
    refine ⟨?_, ?_⟩
    · rw [hV, hB]; have := World.alloc_heap_new (w.alloc (.deferred (some []))) (.loop (lr .ready none)); rwa [World.size_alloc] at this
    · rw [hV, hB, Below.heap_alloc _ _ _ (by simp)]; exact World.alloc_heap_new w _
  have iV : I [] V := by rw [hV]; exact hI.alloc _ (hI.alloc _ h0)
  have bV : Below w0.heap.size w0 V := hb0.trans (by rw [hV]; exact (((Below.refl _ w).alloc (Nat.le_refl _) _).alloc (by simp) _).mono hb0.size)
  refine ⟨B + 1, [{ target := .collected B, args := #[] }], V, { target := .fn (.func gf) lb, args := #[.func (.yield (B + 1)) #[] #[]] }, V, gf, #[.func (.yield (B + 1)) #[] #[]] ++ lb, V, ?_, ?_, fun _ _ => trivial, ?_, fun _ => h1, ?_⟩
  · rw [hV, hlr, hB]; exact run_enterLoop_outer _ _ _ _ _
  · simp only [resolve, hg]
    simp [go_sem]
  · simp [invoke, go_sem, eg]
  · refine callsIn_wide.2 ((hseq (B + 1) (fun pre W => I pre W ∧ Book B (lr .ready none) W) (fun pre W => ∃ c, Ix c pre W ∧ Book B (lr .done (some c)) W) V bV (fun s A A' hs hr => ?_) (fun s A A' hs hr => ?_) ?_ ⟨iV, kV⟩).mono ?_)
    · rw [sV, hB] at hr
      exact ⟨hIR s A A' hs.1 hr, hs.2.keep fun k o hk ho _ => hRo _ _ _ k o hr hk ho⟩
    · rw [sV, hB] at hr
      obtain ⟨c, hc, bk⟩ := hs
      exact ⟨c, hIxR c s A A' hc hr, bk.keep fun k o hk ho _ => hRo _ _ _ k o hr hk ho⟩
    · rintro pre x W ⟨hi, bk⟩ hlen
      have hy := run_yield (P := P) (args := encs x) bk.lp (by rw [hlr]; exact hps x)
      rw [hlr] at hy
      have hlB : B + 1 < W.heap.size := (Array.getElem?_eq_some_iff.1 bk.lp).1
      have bkA : Book B (lr .ready none) (A x W) := bk.keep fun k o hk ho _ => ((hA x W).block k (Array.getElem?_eq_some_iff.1 hk).1).trans hk
      refine ⟨fn, _, assign, body, hy, roundIn_of_wpIn hfn (hassign _ x W _ ⟨_, run_beginRound bkA.lp (by rw [hlr]), ?_⟩)⟩
      obtain ⟨W2, hW2⟩ : ∃ W2, W2 = (A x W).putObj (B + 1) (.loop { lr .ready none with state := .busy }) := ⟨_, rfl⟩
      rw [← hW2]
      have bk2 : Book B { lr .ready none with state := .busy } W2 := by rw [hW2]; exact bkA.put
      have kp2 : Kp W W2 := by rw [hW2]; exact hKt (hAK pre x W hi) (hKb _ _ _ _ (by omega) bkA.lp rfl)
      have i2 : I pre W2 := by rw [hW2]; exact hI.putObj _ (hAI _ _ _ hi) (by omega) bkA.lp rfl
      refine wpIn_mono (hbody _ pre x W W2 (by omega) i2 hlen (by rw [hW2]; simp [World.putObj]) (fun k hk => by rw [hW2]; exact World.putObj_heap_other (by omega))) ?_
      have fin : ∀ (jump : Option Code) (W3 : World), KeepsFrom w.heap.size W2 W3 → Book B { lr .ready none with state := .busy } W3 ∧
          (Instr.endRound (B + 1) jump).run P W3 = .ok (.bool jump.isNone) (W3.putObj (B + 1) (.loop (lr (if jump.isNone then .ready else .done) jump))) := fun jump W3 hk3 => by
        have bk3 : Book B { lr .ready none with state := .busy } W3 := bk2.keep fun k o hk ho hle => hk3.same k o (by omega) hk ho
        refine ⟨bk3, ?_⟩
        have e := run_endRound (P := P) jump bk3.lp
        rw [hlr] at e
        rw [hlr]
        exact e
      rintro e a3 W3 hp
      cases e with
      | normal =>
        obtain ⟨hk3, hkp3, hi3⟩ := hp
        obtain ⟨bk3, hr3⟩ := fin none W3 hk3
        exact ⟨_, _, hr3, .inl ⟨rfl, ⟨hI.putObj _ hi3 (by omega) bk3.lp rfl, bk3.put⟩, hKt (hKt kp2 hkp3) (hKb _ _ _ _ (by omega) bk3.lp rfl)⟩⟩
      | ret =>
        obtain ⟨hk3, hi3⟩ := hp
        obtain ⟨bk3, hr3⟩ := fin (some .ret) W3 hk3
        exact ⟨_, _, hr3, .inr ⟨rfl, .ret, (hIx _).putObj _ hi3 (by omega) bk3.lp rfl, bk3.put⟩⟩
      | exit id =>
        obtain ⟨hk3, hi3⟩ := hp
        obtain ⟨bk3, hr3⟩ := fin (some (.exit id)) W3 hk3
        exact ⟨_, _, hr3, .inr ⟨rfl, .exit id, (hIx _).putObj _ hi3 (by omega) bk3.lp rfl, bk3.put⟩⟩
      | goto t =>
        obtain ⟨hk3, hi3⟩ := hp
        obtain ⟨bk3, hr3⟩ := fin (some (.goto t)) W3 hk3
        exact ⟨_, _, hr3, .inr ⟨rfl, .goto t, (hIx _).putObj _ hi3 (by omega) bk3.lp rfl, bk3.put⟩⟩
      | panic ch => exact hp.elim
      | outgrown => exact hp.elim
    · rintro e W2 ⟨⟨v, rfl⟩, (⟨xs, hS, hi, bk⟩ | ⟨pre, hSp, c, hi, bk⟩)⟩
      · have hr := run_endLoop (P := P) bk.lp (by rw [hlr]; simp)
        rw [hlr] at hr
        exact ⟨none, _, hr, hdone B xs _ (by omega) hS (hI.putObj _ hi (by omega) bk.lp rfl) ((World.putObj_heap_other (by omega)).trans bk.df)⟩
      · have hr := run_endLoop (P := P) bk.lp (by rw [hlr]; simp)
        rw [hlr] at hr
        exact ⟨some c, _, hr, hstop B c pre _ (by omega) hSp ((hIx c).putObj _ hi (by omega) bk.lp rfl) ((World.putObj_heap_other (by omega)).trans bk.df)⟩
end Go.Proofs.YtcgdnpcegcmboaaGreatDoor.Range
end
