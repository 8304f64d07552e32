/- A row of operations that only make values and blocks, run by reckoning. -/
import Derived.Test.YtgmnmcaclpfknaaProg
import Derived.WalkKit
namespace Go.Proofs.Ytgmnmcaclpfknaa.Run
open Go Go.RowKit
set_option linter.unusedVariables false
set_option linter.unusedSimpArgs false
def runTo (P : Program) (ops : Array Oper) : List Oper → Act → World → Option (Act × World)
  | [], a, w => some (a, w)
  | o :: r, a, w =>
    if Region.wanted o (yielded ops a.tmps) then
      match (execOp a.eval o).run P w with
      | .ok (.value v) w' => runTo P ops r (a.put o.dst v) w'
      | _ => none
    else runTo P ops r (a.put o.dst undef) w
theorem wpList_run {P : Program} {ops : Array Oper} {Q : Exit → Act → World → Prop} : ∀ (l r : List Oper) {a a' : Act} {w w' : World}, runTo P ops l a w = some (a', w') → wpList P ops Q r a' w' → wpList P ops Q (l ++ r) a w
  | [], r, a, a', w, w', h, k => by
    simp only [runTo, Option.some.injEq, Prod.mk.injEq] at h
    obtain ⟨rfl, rfl⟩ := h
    exact k
  | o :: l, r, a, a', w, w', h, k => by
    unfold runTo at h
    show wpList P ops Q (o :: (l ++ r)) a w
    unfold wpList
    split at h
    · rename_i hw
      rw [if_pos hw]
      refine .inl ?_
      unfold Oper.wp
      split at h
      · rename_i v w1 e
        rw [e]
        exact wpList_run l r h k
      · cases h
    · rename_i hw
      rw [if_neg hw]
      exact wpList_run l r h k
theorem wp_run {P : Program} {Q : Exit → Act → World → Prop} {id : Nat} {l r : List Oper} {a a' : Act} {w w' : World} (h : runTo P (l ++ r).toArray l a w = some (a', w')) (k : wpList P (l ++ r).toArray Q r a' w') : (Code.region id (l ++ r).toArray false).wp P Q a w :=
  wp_region_lit (wpList_run l r h k)
def runRet (P : Program) : Code → Act → World → Option (Act × World)
  | .seq (.region _ ops false) y, a, w =>
    match runTo P ops ops.toList a w with
    | some (a', w') => runRet P y a' w'
    | none => none
  | .ret, a, w => some (a, w)
  | _, _, _ => none
theorem wp_ret_run {P : Program} {Q : Exit → Act → World → Prop} : ∀ (c : Code) {a a' : Act} {w w' : World}, runRet P c a w = some (a', w') → Q .ret a' w' → c.wp P Q a w := by
  intro c a a' w w' h k
  induction c generalizing a w with
  | ret =>
    simp only [runRet, Option.some.injEq, Prod.mk.injEq] at h
    obtain ⟨rfl, rfl⟩ := h
    exact wp_ret k
  | seq x y _ ih =>
    cases x with
    | region id ops d =>
      cases d with
      | true => simp [runRet] at h
      | false =>
        simp only [runRet] at h
        split at h
        · rename_i a1 w1 e
          refine wp_seq (wp_region_list ?_)
          have := wpList_run (P := P) (ops := ops) (Q := Exit.then (y.wp P Q) Q) ops.toList [] e (ih h)
          rwa [List.append_nil] at this
        · cases h
    | _ => simp [runRet] at h
  | _ => simp [runRet] at h
theorem calls_run {P : Program} {f : FuncId} {fn : Func} {c : Code} {args : Array Value} {w w' : World} {a' : Act} {v : Value} {R : Ending → World → Prop} (hf : P.funcs[f]? = some fn) (hb : fn.body = some c)
    (h : runRet P c { tmps := args ++ Array.replicate (fn.ntmps - args.size) undef, defers := [] } w = some (a', w')) (hd : a'.defers = []) (hr : (results fn a'.tmps).run P w' = .ok v w') (hR : R (.returned v) w') : Calls P f args w R :=
  calls_of_wp hf hb (wp_ret_run c h ⟨hd, v, hr, hR⟩)
end Go.Proofs.Ytgmnmcaclpfknaa.Run
