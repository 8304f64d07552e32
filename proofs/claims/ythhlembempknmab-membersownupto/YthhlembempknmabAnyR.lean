/- A region in which seven calls make lists and four rows of headers are laid, in whatever order. -/
import Derived.Test.YthhlembempknmabSets
import Derived.OrdersHeld
import Derived.RegionTactic
namespace Go.Proofs.Ythhlembempknmab.AnyR
open Go Go.RowKit Go.Sort
open Go.Proofs.Ythhlembempknmab.SetMath
open Go.Proofs.Ythhlembempknmab.Base
open Go.Proofs.Ythhlembempknmab.Sets
set_option linter.unusedVariables false
set_option linter.unusedSimpArgs false
section
variable {P : Program} {ops : Array Oper} {Q : Exit → Act → World → Prop} {md : Region.Mode} {S : World → Prop}
def cntF (l : Array Bool) : Nat := l.toList.count false
theorem cnt_zero {l : Array Bool} (h : cntF l = 0) : Region.ready md ops l = [] := by
  cases e : Region.ready md ops l with
  | nil => rfl
  | cons j r =>
    have hj : j ∈ Region.ready md ops l := by rw [e]; exact List.mem_cons_self
    have h1 := (mem_ready.1 hj).1
    have hlt : j < l.size := by
      rcases Nat.lt_or_ge j l.size with q | q
      · exact q
      · simp [Array.getElem?_eq_none q] at h1
    have h2 : l[j] = false := by simpa [hlt] using h1
    have h3 : false ∈ l.toList := by rw [← h2]; simp
    have := List.count_pos_iff.2 h3
    unfold cntF at h
    omega
theorem cnt_set {l : Array Bool} {i : Nat} (h : l.getD i true = false) : cntF (l.setIfInBounds i true) + 1 = cntF l := by
  have hlt : i < l.size := by
    rcases Nat.lt_or_ge i l.size with q | q
    · exact q
    · simp [Array.getElem?_eq_none q] at h
  have h2 : l[i] = false := by simpa [hlt] using h
  unfold cntF
  rw [Array.toList_setIfInBounds]
  have hl : i < l.toList.length := by simpa using hlt
  have h3 : l.toList[i] = false := by simpa using h2
  rw [List.count_set hl, h3]
  have : false ∈ l.toList := by rw [← h3]; exact List.getElem_mem hl
  have := List.count_pos_iff.2 this
  rw [if_pos (show (false == false) = true from rfl), if_neg (show ¬ (true == false) = true by decide)]
  omega
/-- whatever comes up keeps Inv -/
theorem inv_any {Inv : Array Bool → Act → World → Prop} (hS : ∀ l a w, Inv l a w → S w) (hfin : ∀ l a w, Inv l a w → Region.ready md ops l = [] → Q .normal a w)
    (hstep : ∀ l a w i, Inv l a w → i ∈ Region.ready md ops l → wpOp P ops Q i (fun a' w' => Inv (l.setIfInBounds i true) a' w') a w) :
    ∀ (fuel : Nat) (l : Array Bool) (a : Act) (w : World), cntF l ≤ fuel → Inv l a w → wpAnyH P md ops Q S fuel l a w
  | 0, l, a, w, hc, h => ⟨cnt_zero (by omega), hfin l a w h (cnt_zero (by omega))⟩
  | fuel + 1, l, a, w, hc, h => ⟨fun hr => hfin l a w h hr, fun i hi => wpOp_mono (fun a' w' h' => ⟨hS _ _ _ h', inv_any hS hfin hstep fuel _ a' w' (by have := cnt_set (mem_ready.1 hi).1; omega) h'⟩) (hstep l a w i h hi)⟩
end
/-- number i of the operations is this one, and waits for these -/
structure Is (ops : Array Oper) (i : Nat) (op : Op) (dst : Nat) (deps : List Nat) : Prop where
  ex : ∃ o, ops[i]? = some o ∧ o.guard = none ∧ o.op = op ∧ o.dst = some dst ∧ deps.all (fun d => o.after.any fun e => Region.binds .any e && (e.on == d)) = true
theorem Is.dep {ops : Array Oper} {i : Nat} {op : Op} {dst : Nat} {deps : List Nat} (h : Is ops i op dst deps) {l : Array Bool} (hr : i ∈ Region.ready .any ops l) {d : Nat} (hd : d ∈ deps) : l.getD d false = true := by
  obtain ⟨o, h1, _, _, _, h5⟩ := h.ex
  obtain ⟨_, o', h6, h7⟩ := mem_ready.1 hr
  rw [h1] at h6
  cases h6
  have h8 := List.all_eq_true.1 h5 d hd
  obtain ⟨k, hk, he⟩ := Array.any_eq_true.1 h8
  simp only [Bool.and_eq_true, beq_iff_eq] at he
  have := h7 _ (Array.getElem_mem hk) he.1
  rw [he.2] at this
  exact this
/-- it yields a value -/
theorem Is.value {ops : Array Oper} {Q : Exit → Act → World → Prop} {i : Nat} {op : Op} {dst : Nat} {deps : List Nat} (h : Is ops i op dst deps) {a : Act} {w w' : World} {v : Value} {K : Act → World → Prop}
    (hx : ∀ o : Oper, o.op = op → (execOp a.eval o).run Try.prog w = .ok (.value v) w') (hK : K (a.put (some dst) v) w') : wpOp Try.prog ops Q i K a w := by
  obtain ⟨o, h1, h2, h3, h4, _⟩ := h.ex
  unfold wpOp
  simp only [h1]
  have hw : Region.wanted o (yielded ops a.tmps) = true := by simp [Region.wanted, h2]
  simp only [hw, if_true]
  refine .inl ?_
  unfold Oper.wp
  rw [hx o h3]
  simp only [Oper.upon]
  rw [h4]
  exact hK
/-- it is a call -/
theorem Is.call {ops : Array Oper} {Q : Exit → Act → World → Prop} {i : Nat} {op : Op} {dst : Nat} {deps : List Nat} (h : Is ops i op dst deps) {a : Act} {w : World} {f : FuncId} {args : Array Value} {K : Act → World → Prop}
    (hx : ∀ o : Oper, o.op = op → (execOp a.eval o).run Try.prog w = .ok (.enter f args) w) (hK : Calls Try.prog f args w fun e w' => ∃ v, e = .returned v ∧ K (a.put (some dst) v) w') : wpOp Try.prog ops Q i K a w := by
  obtain ⟨o, h1, h2, h3, h4, _⟩ := h.ex
  unfold wpOp
  simp only [h1]
  have hw : Region.wanted o (yielded ops a.tmps) = true := by simp [Region.wanted, h2]
  simp only [hw, if_true]
  refine .inl ?_
  unfold Oper.wp
  rw [hx o h3]
  simp only [Oper.upon]
  refine hK.mono ?_
  rintro e w' ⟨v, rfl, hk⟩
  rw [h4]
  exact hk
theorem exec_6 (a : Act) (w : World) (t : Nat) (o : Oper) (ho : o.op = .call { callee := .value (.func 6), args := #[.tmp t], argTypes := #[22] }) : (execOp a.eval o).run Try.prog w = .ok (.enter 6 #[a.eval (.tmp t)]) w := by
  cases o
  simp only at ho
  subst ho
  kernel_rfl
theorem exec_7 (a : Act) (w : World) (t : Nat) (o : Oper) (ho : o.op = .call { callee := .value (.func 7), args := #[.tmp t], argTypes := #[24] }) : (execOp a.eval o).run Try.prog w = .ok (.enter 7 #[a.eval (.tmp t)]) w := by
  cases o
  simp only at ho
  subst ho
  kernel_rfl
theorem exec_8 (a : Act) (w : World) (t : Nat) (o : Oper) (ho : o.op = .call { callee := .value (.func 8), args := #[.tmp t], argTypes := #[24] }) : (execOp a.eval o).run Try.prog w = .ok (.enter 8 #[a.eval (.tmp t)]) w := by
  cases o
  simp only at ho
  subst ho
  kernel_rfl
theorem exec_9 (a : Act) (w : World) (t : Nat) (o : Oper) (ho : o.op = .call { callee := .value (.func 9), args := #[.tmp t], argTypes := #[24] }) : (execOp a.eval o).run Try.prog w = .ok (.enter 9 #[a.eval (.tmp t)]) w := by
  cases o
  simp only at ho
  subst ho
  kernel_rfl
theorem exec_10 (a : Act) (w : World) (t : Nat) (o : Oper) (ho : o.op = .call { callee := .value (.func 10), args := #[.tmp t, .const (.string ⟨#[]⟩), .const (.int .i64 1099511627776)], argTypes := #[22, 9, 3] }) : (execOp a.eval o).run Try.prog w = .ok (.enter 10 #[a.eval (.tmp t), .string ⟨#[]⟩, .int .i64 1099511627776]) w := by
  cases o
  simp only at ho
  subst ho
  kernel_rfl
theorem exec_move (a : Act) (w : World) (t : Nat) (o : Oper) (ho : o.op = .assign (.tmp t)) : (execOp a.eval o).run Try.prog w = .ok (.value (a.eval (.tmp t))) w := by
  cases o
  simp only at ho
  subst ho
  rfl
theorem exec_build1 (a : Act) (w : World) (t : Nat) (x : Option Addr) (n c : Nat) (hv : a.eval (.tmp t) = .slice x n c) (o : Oper) (ho : o.op = .buildSlice 24 1 #[(0, .tmp t)]) :
    (execOp a.eval o).run Try.prog w = .ok (.value (.slice (some ⟨w.heap.size, 0, none⟩) 1 1)) (w.alloc (.cells #[.slice x n c] 22)) := by
  cases o
  simp only at ho
  subst ho
  simp only [execOp, List.map_toArray, List.map_cons, List.map_nil, hv]
  kernel_rfl
theorem exec_build7 (a : Act) (w : World) (t0 t1 t2 t3 t4 t5 t6 : Nat) (x0 x1 x2 x3 x4 x5 x6 : Option Addr) (n0 n1 n2 n3 n4 n5 n6 c0 c1 c2 c3 c4 c5 c6 : Nat) (h0 : a.eval (.tmp t0) = .slice x0 n0 c0) (h1 : a.eval (.tmp t1) = .slice x1 n1 c1) (h2 : a.eval (.tmp t2) = .slice x2 n2 c2) (h3 : a.eval (.tmp t3) = .slice x3 n3 c3) (h4 : a.eval (.tmp t4) = .slice x4 n4 c4) (h5 : a.eval (.tmp t5) = .slice x5 n5 c5) (h6 : a.eval (.tmp t6) = .slice x6 n6 c6) (o : Oper)
    (ho : o.op = .buildSlice 24 7 #[(0, .tmp t0), (1, .tmp t1), (2, .tmp t2), (3, .tmp t3), (4, .tmp t4), (5, .tmp t5), (6, .tmp t6)]) :
    (execOp a.eval o).run Try.prog w = .ok (.value (.slice (some ⟨w.heap.size, 0, none⟩) 7 7)) (w.alloc (.cells #[.slice x0 n0 c0, .slice x1 n1 c1, .slice x2 n2 c2, .slice x3 n3 c3, .slice x4 n4 c4, .slice x5 n5 c5, .slice x6 n6 c6] 22)) := by
  cases o
  simp only at ho
  subst ho
  simp only [execOp, List.map_toArray, List.map_cons, List.map_nil, h0, h1, h2, h3, h4, h5, h6]
  kernel_rfl
end Go.Proofs.Ythhlembempknmab.AnyR
