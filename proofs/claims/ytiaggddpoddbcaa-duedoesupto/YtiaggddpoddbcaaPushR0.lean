/- Raw: the first Push of an index's row over texts. -/
import Derived.Test.YtiaggddpoddbcaaRowB
import Derived.Carry
import Derived.Deep.AppendSrc
import Derived.Deep.RegionLaw
namespace Go.Proofs.Ytiaggddpoddbcaa.PushR0
open Go.RowKit Go.Maps
open Go.Proofs.Ytiaggddpoddbcaa.HeapMath
open Go.Proofs.Ytiaggddpoddbcaa.Heap
open Go.Proofs.Ytiaggddpoddbcaa.Turn
open Go.Proofs.Ytiaggddpoddbcaa.Before
open Go.Proofs.Ytiaggddpoddbcaa.RowB
set_option linter.unusedVariables false
set_option linter.unusedSimpArgs false
section
variable {ops : Array Oper} {o : Oper} {a : Act} {Q : Exit → Act → World → Prop} {K : Act → World → Prop} {E : Prop}
theorem step_eq (hg : o.guard = none) (s x : Operand) (t tx : TypeId) (ho : o.op = .call { callee := .builtin .append, args := #[s, x], argTypes := #[t, tx] }) (v u v' : Value) (W W' : World) (hs : a.eval s = v) (hx : a.eval x = u)
    (hr : (Builtin.append_ #[t, tx] o.type #[v, u]).run Try.prog W = .ok v' W') (hK : K (a.put o.dst v') W') : if Region.wanted o (yielded ops a.tmps) = true then Oper.wp Try.prog o a W K Q else E := by
  have hw : Region.wanted o (yielded ops a.tmps) = true := by simp [Region.wanted, hg]
  rw [if_pos hw]
  unfold Oper.wp execOp
  simp only [ho, resolve, invoke, builtin, Sem.run_bind, Sem.run_pure, Result.andThen_ok, List.map_toArray, List.map_cons, List.map_nil, hs, hx, hr]
  exact hK
end
theorem eqlSome (bm : Nat) (w : World) : (binOp .eql 69 (.map (some bm)) (.map none)).run Try.prog w = .ok (.bool false) w := by kernel_rfl
theorem eqlNil (w : World) : (binOp .eql 69 (.map none) (.map none)).run Try.prog w = .ok (.bool true) w := by kernel_rfl
theorem isEntry (v : Value) (w : World) : (Instr.typeAssert (.iface 96 v) 20 96 false).run Try.prog w = .ok v w := by kernel_rfl
set_option maxHeartbeats 4000000 in
set_option maxRecDepth 100000 in
theorem push_raw0 (b n c n' c' bm : Nat) (a a' : Option Addr) (w W1 W2 W3 : World) (k : ByteArray) (t : Int) (hn : n < 1099511627776) (hbl : b < w.heap.size)
    (c1 : w.cell? ⟨b, 1, none⟩ = some (.map none)) (f1 : w.frozen? ⟨b, 1, none⟩ = false)
    (HB : bm = w.heap.size) (HW : Hid (((w.setCell ⟨b, 1, none⟩ (.map (some w.heap.size))).alloc (.map #[] 0)).alloc (.cells #[.string k, .int .i64 t] 96) = W1))
    (H1 : Hid (W1.cell? ⟨b, 0, none⟩ = some (.slice a n c) ∧ W1.cell? ⟨b, 1, none⟩ = some (.map (some bm)) ∧ W1.cell? ⟨w.heap.size + 1, 0, none⟩ = some (.string k) ∧ (Instr.mapUpdate 69 (.map (some bm)) (.string k) (.int .i64 (n : Int))).run Try.prog W1.drew = .ok () W2))
    (H2 : Hid (W2.drew.cell? ⟨b, 0, none⟩ = some (.slice a n c) ∧ (W2.alloc (.cells #[.string k, .int .i64 t] 96)).cell? ⟨b, 0, none⟩ = some (.slice a n c) ∧ W2.drew.cell? ⟨w.heap.size + 1, 0, none⟩ = some (.string k) ∧ W2.drew.cell? ⟨w.heap.size + 1, 1, none⟩ = some (.int .i64 t) ∧
      (Builtin.append_ #[68, 68] 68 #[.slice a n c, .slice (some ⟨W2.heap.size, 0, none⟩) 1 1]).run Try.prog (W2.drew.alloc (.cells #[.string k, .int .i64 t] 96)) = .ok (.slice a' n' c') W3 ∧ W3.cell? ⟨b, 0, none⟩ = some (.slice a n c) ∧ W3.frozen? ⟨b, 0, none⟩ = false)) :
    Calls Try.prog 83 #[.pointer (some ⟨b, 0, none⟩), .iface 96 (.agg #[.string k, .int .i64 t])] w fun e w' => e = .returned (.tuple #[]) ∧ w' = W3.setCell ⟨b, 0, none⟩ (.slice a' n' c') := by
  subst HB
  have q69 := eqlNil w
  have q96 := isEntry (.agg #[.string k, .int .i64 t])
  have nb : b ≠ w.heap.size := by omega
  have qmm : (Instr.makeMap 69 none).run Try.prog w = .ok (.map (some w.heap.size)) (w.alloc (.map #[] 0)) := by kernel_rfl
  go_enter Try.func83, Try.ntmps83
  go_wp2_with fail
  rw [HW.out]
  clear c1 f1 HW
  obtain ⟨c0, c1, x0, hu⟩ := H1.out
  go_region
  clear c0 c1 x0 hu
  obtain ⟨c0, c2, x0, x1, hr, c3, f3⟩ := H2.out
  have c0' : W2.cell? ⟨b, 0, none⟩ = some (.slice a n c) := c0
  go_wp2_with fail
  go_region_law (first | (refine step_eq rfl (.tmp 31) (.tmp 33) 68 68 rfl (.slice a n c) (.slice (some ⟨W2.heap.size, 0, none⟩) 1 1) (.slice a' n' c') _ W3 (by first | (simp [Act.eval]; done) | simp [Act.eval, Act.put]) (by first | (simp [Act.eval]; done) | simp [Act.eval, Act.put]) hr ?_))
  all_goals
    go_wp2_with fail
    go_end0
    exact ⟨rfl, rfl⟩
end Go.Proofs.Ytiaggddpoddbcaa.PushR0
