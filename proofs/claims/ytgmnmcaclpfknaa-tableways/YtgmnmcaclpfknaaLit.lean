/- A function that lays a table: values, then a row of them. -/
import Derived.Test.YtgmnmcaclpfknaaRun
import Derived.Great.BuildSlice
namespace Go.Proofs.Ytgmnmcaclpfknaa.Lit
open Go Go.RowKit
open Go.Proofs.Ytgmnmcaclpfknaa.Run
set_option linter.unusedVariables false
set_option linter.unusedSimpArgs false
noncomputable def opsOf (c : Code) (k : Nat) : List Oper := match c, k with
  | .seq (.region _ ops _) _, 0 => ops.toList
  | .seq _ y, k + 1 => opsOf y k
  | _, _ => []
noncomputable def ops (f : Func) (k : Nat) : List Oper := opsOf (f.body.getD .skip) k
noncomputable def operNo (f : Func) (k i : Nat) : Oper := ((ops f k).drop i).headD { dst := none, op := .assign (.const undef), type := 0, pos := "", after := #[], guard := none }
def parts (n d : Nat) : List (Nat × Operand) := (List.range n).map fun i => (i, Operand.tmp (i + d))
theorem lit_wp {P : Program} {id0 id1 : Nat} {O0 O1 rest : List Oper} {o : Oper} {c : Code} {Q : Exit → Act → World → Prop} {a0 a1 a2 : Act} {w : World}
    (h0 : runTo P O0.toArray O0 a0 w = some (a1, w)) (h1 : runTo P (O1 ++ o :: rest).toArray O1 a1 w = some (a2, w)) (hg : o.guard = none) (t e : TypeId) (n d sz : Nat) (vs : List Value)
    (ho : o.op = .buildSlice t n (parts n d).toArray) (hu : P.underlying t = some (.slice e)) (hi : (P.info? e).map (fun i => (i.zero.map (·.cells.size), i.size)) = some (some sz, sz))
    (hn : vs.length = n) (hp : 0 < n) (hs : 0 < sz) (hsm : n * sz ≤ 2 ^ 24) (hv : vs.all (fun v => v.cells.size == sz) = true)
    (he : (parts n d).map (fun x => (x.1, a2.eval x.2)) = (vs.zipIdx 0).map fun x => (x.2, x.1))
    (h : wpList P (O1 ++ o :: rest).toArray (Exit.then (c.wp P Q) Q) rest (a2.put o.dst (.slice (some ⟨w.heap.size, 0, none⟩) n n)) (w.alloc (.cells (vs.flatMap fun v => v.cells.toList).toArray e))) :
    (Code.seq (.region id0 O0.toArray false) (.seq (.region id1 (O1 ++ o :: rest).toArray false) c)).wp P Q a0 w := by
  refine wp_seq (wp_region_lit ?_)
  have q0 := wpList_run (P := P) (ops := O0.toArray) (Q := Exit.then ((Code.seq (.region id1 (O1 ++ o :: rest).toArray false) c).wp P Q) Q) O0 [] h0
  rw [List.append_nil] at q0
  refine q0 (wp_seq (wp_region_lit (wpList_run O1 (o :: rest) h1 ?_)))
  cases hie : P.info? e with
  | none => simp [hie] at hi
  | some ie =>
    simp only [hie, Option.map_some, Option.some.injEq, Prod.mk.injEq] at hi
    obtain ⟨hz, hsz⟩ := hi
    cases hzz : ie.zero with
    | none => simp [hzz] at hz
    | some z =>
      refine wpList_buildSlice hg t e n _ ho _ ie z hu hie hzz (by rw [hsz]; omega) ?_ ?_ h
      · rw [hsz]
        have := Nat.mul_pos hp hs
        omega
      · rw [Array.toList_map]
        show Instr.fill _ _ ((parts n d).map fun x => (x.1, a2.eval x.2)) = _
        rw [he, hsz]
        refine Great.fill_whole hs vs _ (fun v hv' => ?_) (by simp [hn])
        exact eq_of_beq (List.all_eq_true.1 hv v hv')
end Go.Proofs.Ytgmnmcaclpfknaa.Lit
