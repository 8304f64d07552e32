/- Raw: Push of an index's row over texts. Raw: the first Push of an index's row over texts. Push of an index's row over texts; the row as a thing that container/heap moves. -/
import Derived.Test.YtminfpkigenahaaGreatDoorRowBM
import Derived.Deep.AppendSrc
import Derived.Deep.RegionLaw
import Derived.Carry
section
namespace Go.Proofs.YtminfpkigenahaaGreatDoor.PushR
open Go.RowKit Go.Maps
open Go.Proofs.YtminfpkigenahaaGreatDoor.HeapMath
open Go.Proofs.YtminfpkigenahaaGreatDoor.Heap
open Go.Proofs.YtminfpkigenahaaGreatDoor.Turn
open Go.Proofs.YtminfpkigenahaaGreatDoor.Before
open Go.Proofs.YtminfpkigenahaaGreatDoor.Base (mk mk_list)
open Go.Proofs.YtminfpkigenahaaGreatDoor.RowB
set_option linter.unusedVariables false
set_option linter.unusedSimpArgs false
section
variable {ops : Array Oper} {o : Oper} {a : Act} {Q : Exit → Act → World → Prop} {K : Act → World → Prop} {E : Prop}
theorem step_eq (hg : o.guard = none) (s x : Operand) (t tx : TypeId) (ho : o.op = .call { callee := .builtin .append, args := #[s, x], argTypes := #[t, tx] }) (v u v' : Value) (W W' : World) (hs : a.eval s = v) (hx : a.eval x = u)
    (hr : (Builtin.append_ #[t, tx] o.type #[v, u]).run Tryz.prog W = .ok v' W') (hK : K (a.put o.dst v') W') : if Region.wanted o (yielded ops a.tmps) = true then Oper.wp Tryz.prog o a W K Q else E := by
  have hw : Region.wanted o (yielded ops a.tmps) = true := by simp [Region.wanted, hg]
  rw [if_pos hw]
  unfold Oper.wp execOp
  simp only [ho, resolve, invoke, builtin, Sem.run_bind, Sem.run_pure, Result.andThen_ok, List.map_toArray, List.map_cons, List.map_nil, hs, hx, hr]
  exact hK
end
theorem eqlSome (bm : Nat) (w : World) : (binOp .eql 86 (.map (some bm)) (.map none)).run Tryz.prog w = .ok (.bool false) w := by kernel_rfl
theorem eqlNil (w : World) : (binOp .eql 86 (.map none) (.map none)).run Tryz.prog w = .ok (.bool true) w := by kernel_rfl
theorem isEntry (v : Value) (w : World) : (Instr.typeAssert (.iface 96 v) 20 96 false).run Tryz.prog w = .ok v w := by kernel_rfl
set_option maxHeartbeats 4000000 in
set_option maxRecDepth 100000 in
theorem push_raw (b n c n' c' bm : Nat) (a a' : Option Addr) (w W1 W2 W3 : World) (k : ByteArray) (t : Int) (hn : n < 1099511627776) (hbl : b < w.heap.size)
    (c1 : w.cell? ⟨b, 1, none⟩ = some (.map (some bm)))
    (HW : Hid (w.alloc (.cells #[.string k, .int .i64 t] 96) = W1))
    (H1 : Hid (W1.cell? ⟨b, 0, none⟩ = some (.slice a n c) ∧ W1.cell? ⟨b, 1, none⟩ = some (.map (some bm)) ∧ W1.cell? ⟨w.heap.size, 0, none⟩ = some (.string k) ∧ (Instr.mapUpdate 86 (.map (some bm)) (.string k) (.int .i64 (n : Int))).run Tryz.prog W1.drew = .ok () W2))
    (H2 : Hid (W2.drew.cell? ⟨b, 0, none⟩ = some (.slice a n c) ∧ (W2.alloc (.cells #[.string k, .int .i64 t] 96)).cell? ⟨b, 0, none⟩ = some (.slice a n c) ∧ W2.drew.cell? ⟨w.heap.size, 0, none⟩ = some (.string k) ∧ W2.drew.cell? ⟨w.heap.size, 1, none⟩ = some (.int .i64 t) ∧
      (Builtin.append_ #[85, 85] 85 #[.slice a n c, .slice (some ⟨W2.heap.size, 0, none⟩) 1 1]).run Tryz.prog (W2.drew.alloc (.cells #[.string k, .int .i64 t] 96)) = .ok (.slice a' n' c') W3 ∧ W3.cell? ⟨b, 0, none⟩ = some (.slice a n c) ∧ W3.frozen? ⟨b, 0, none⟩ = false)) :
    Calls Tryz.prog 220 #[.pointer (some ⟨b, 0, none⟩), .iface 96 (.agg #[.string k, .int .i64 t])] w fun e w' => e = .returned (.tuple #[]) ∧ w' = W3.setCell ⟨b, 0, none⟩ (.slice a' n' c') := by
  have q69 := eqlSome bm w
  have q96 := isEntry (.agg #[.string k, .int .i64 t]) w
  go_enter Tryz.func220, Tryz.ntmps220
  go_wp2_with fail
  rw [HW.out]
  clear c1 HW
  obtain ⟨c0, c1, x0, hu⟩ := H1.out
  go_region
  clear c0 c1 x0 hu
  obtain ⟨c0, c2, x0, x1, hr, c3, f3⟩ := H2.out
  have c0' : W2.cell? ⟨b, 0, none⟩ = some (.slice a n c) := c0
  go_wp2_with fail
  go_region_law (first | (refine step_eq rfl (.tmp 31) (.tmp 33) 85 85 rfl (.slice a n c) (.slice (some ⟨W2.heap.size, 0, none⟩) 1 1) (.slice a' n' c') _ W3 (by first | (simp [Act.eval]; done) | simp [Act.eval, Act.put]) (by first | (simp [Act.eval]; done) | simp [Act.eval, Act.put]) hr ?_))
  all_goals
    go_wp2_with fail
    go_end0
    exact ⟨rfl, rfl⟩
end Go.Proofs.YtminfpkigenahaaGreatDoor.PushR
end
section
namespace Go.Proofs.YtminfpkigenahaaGreatDoor.PushR0
open Go.RowKit Go.Maps
open Go.Proofs.YtminfpkigenahaaGreatDoor.HeapMath
open Go.Proofs.YtminfpkigenahaaGreatDoor.Heap
open Go.Proofs.YtminfpkigenahaaGreatDoor.Turn
open Go.Proofs.YtminfpkigenahaaGreatDoor.Before
open Go.Proofs.YtminfpkigenahaaGreatDoor.Base (mk mk_list)
open Go.Proofs.YtminfpkigenahaaGreatDoor.RowB
set_option linter.unusedVariables false
set_option linter.unusedSimpArgs false
section
variable {ops : Array Oper} {o : Oper} {a : Act} {Q : Exit → Act → World → Prop} {K : Act → World → Prop} {E : Prop}
theorem step_eq (hg : o.guard = none) (s x : Operand) (t tx : TypeId) (ho : o.op = .call { callee := .builtin .append, args := #[s, x], argTypes := #[t, tx] }) (v u v' : Value) (W W' : World) (hs : a.eval s = v) (hx : a.eval x = u)
    (hr : (Builtin.append_ #[t, tx] o.type #[v, u]).run Tryz.prog W = .ok v' W') (hK : K (a.put o.dst v') W') : if Region.wanted o (yielded ops a.tmps) = true then Oper.wp Tryz.prog o a W K Q else E := by
  have hw : Region.wanted o (yielded ops a.tmps) = true := by simp [Region.wanted, hg]
  rw [if_pos hw]
  unfold Oper.wp execOp
  simp only [ho, resolve, invoke, builtin, Sem.run_bind, Sem.run_pure, Result.andThen_ok, List.map_toArray, List.map_cons, List.map_nil, hs, hx, hr]
  exact hK
end
theorem eqlSome (bm : Nat) (w : World) : (binOp .eql 86 (.map (some bm)) (.map none)).run Tryz.prog w = .ok (.bool false) w := by kernel_rfl
theorem eqlNil (w : World) : (binOp .eql 86 (.map none) (.map none)).run Tryz.prog w = .ok (.bool true) w := by kernel_rfl
theorem isEntry (v : Value) (w : World) : (Instr.typeAssert (.iface 96 v) 20 96 false).run Tryz.prog w = .ok v w := by kernel_rfl
set_option maxHeartbeats 4000000 in
set_option maxRecDepth 100000 in
theorem push_raw0 (b n c n' c' bm : Nat) (a a' : Option Addr) (w W1 W2 W3 : World) (k : ByteArray) (t : Int) (hn : n < 1099511627776) (hbl : b < w.heap.size)
    (c1 : w.cell? ⟨b, 1, none⟩ = some (.map none)) (f1 : w.frozen? ⟨b, 1, none⟩ = false)
    (HB : bm = w.heap.size) (HW : Hid (((w.setCell ⟨b, 1, none⟩ (.map (some w.heap.size))).alloc (.map #[] 0)).alloc (.cells #[.string k, .int .i64 t] 96) = W1))
    (H1 : Hid (W1.cell? ⟨b, 0, none⟩ = some (.slice a n c) ∧ W1.cell? ⟨b, 1, none⟩ = some (.map (some bm)) ∧ W1.cell? ⟨w.heap.size + 1, 0, none⟩ = some (.string k) ∧ (Instr.mapUpdate 86 (.map (some bm)) (.string k) (.int .i64 (n : Int))).run Tryz.prog W1.drew = .ok () W2))
    (H2 : Hid (W2.drew.cell? ⟨b, 0, none⟩ = some (.slice a n c) ∧ (W2.alloc (.cells #[.string k, .int .i64 t] 96)).cell? ⟨b, 0, none⟩ = some (.slice a n c) ∧ W2.drew.cell? ⟨w.heap.size + 1, 0, none⟩ = some (.string k) ∧ W2.drew.cell? ⟨w.heap.size + 1, 1, none⟩ = some (.int .i64 t) ∧
      (Builtin.append_ #[85, 85] 85 #[.slice a n c, .slice (some ⟨W2.heap.size, 0, none⟩) 1 1]).run Tryz.prog (W2.drew.alloc (.cells #[.string k, .int .i64 t] 96)) = .ok (.slice a' n' c') W3 ∧ W3.cell? ⟨b, 0, none⟩ = some (.slice a n c) ∧ W3.frozen? ⟨b, 0, none⟩ = false)) :
    Calls Tryz.prog 220 #[.pointer (some ⟨b, 0, none⟩), .iface 96 (.agg #[.string k, .int .i64 t])] w fun e w' => e = .returned (.tuple #[]) ∧ w' = W3.setCell ⟨b, 0, none⟩ (.slice a' n' c') := by
  subst HB
  have q69 := eqlNil w
  have q96 := isEntry (.agg #[.string k, .int .i64 t])
  have nb : b ≠ w.heap.size := by omega
  have qmm : (Instr.makeMap 86 none).run Tryz.prog w = .ok (.map (some w.heap.size)) (w.alloc (.map #[] 0)) := by kernel_rfl
  go_enter Tryz.func220, Tryz.ntmps220
  go_wp2_with fail
  rw [HW.out]
  clear c1 f1 HW
  obtain ⟨c0, c1, x0, hu⟩ := H1.out
  go_region
  clear c0 c1 x0 hu
  obtain ⟨c0, c2, x0, x1, hr, c3, f3⟩ := H2.out
  have c0' : W2.cell? ⟨b, 0, none⟩ = some (.slice a n c) := c0
  go_wp2_with fail
  go_region_law (first | (refine step_eq rfl (.tmp 31) (.tmp 33) 85 85 rfl (.slice a n c) (.slice (some ⟨W2.heap.size, 0, none⟩) 1 1) (.slice a' n' c') _ W3 (by first | (simp [Act.eval]; done) | simp [Act.eval, Act.put]) (by first | (simp [Act.eval]; done) | simp [Act.eval, Act.put]) hr ?_))
  all_goals
    go_wp2_with fail
    go_end0
    exact ⟨rfl, rfl⟩
end Go.Proofs.YtminfpkigenahaaGreatDoor.PushR0
end
section
namespace Go.Proofs.YtminfpkigenahaaGreatDoor.Push
open Go.RowKit Go.Maps
open Go.Proofs.YtminfpkigenahaaGreatDoor.HeapMath
open Go.Proofs.YtminfpkigenahaaGreatDoor.Heap
open Go.Proofs.YtminfpkigenahaaGreatDoor.Turn
open Go.Proofs.YtminfpkigenahaaGreatDoor.Before
open Go.Proofs.YtminfpkigenahaaGreatDoor.Base (mk mk_list)
open Go.Proofs.YtminfpkigenahaaGreatDoor.Spots
open Go.Proofs.YtminfpkigenahaaGreatDoor.RowB
open Go.Proofs.YtminfpkigenahaaGreatDoor.Swap
open Go.Proofs.YtminfpkigenahaaGreatDoor.Pop
open Go.Proofs.YtminfpkigenahaaGreatDoor.PushR
open Go.Proofs.YtminfpkigenahaaGreatDoor.PushR0
set_option linter.unusedVariables false
set_option linter.unusedSimpArgs false
theorem info96 : (Tryz.prog.info? 96).map (fun i => (i.zero, i.size, i.bytes)) = some (some (.agg #[.string ⟨#[]⟩, .int .i64 0]), 2, 24) := by kernel_rfl
theorem parts {e : TypeId} {z : Value} {n m : Nat} (h : (Tryz.prog.info? e).map (fun i => (i.zero, i.size, i.bytes)) = some (some z, n, m)) : ∃ i, Tryz.prog.info? e = some i ∧ i.zero = some z ∧ i.size = n ∧ i.bytes = m := by
  cases hi : Tryz.prog.info? e with
  | none => rw [hi] at h; cases h
  | some i =>
    rw [hi] at h
    simp at h
    exact ⟨i, rfl, h.1, h.2.1, h.2.2⟩
theorem shape {w : World} {base e sz n : Nat} {v : Value} {xs : List Value} (h : w.ownsRow base e sz v n xs) : ∃ a c, v = .slice a n c := by
  rcases h.2 with ⟨rfl, rfl⟩ | ⟨g, cap, cur, rfl, _⟩
  · exact ⟨_, _, rfl⟩
  · exact ⟨_, _, rfl⟩
theorem row_kd {w : World} {base e sz n g : Nat} {v : Value} {xs : List Value} (h : w.ownsRow base e sz v n xs) (hg : v.ownBlock = some g) : kd w g = e + 2 ∧ g < w.heap.size ∧ base ≤ g := by
  rcases h.2 with ⟨rfl, _⟩ | ⟨g', cap, cur, rfl, hb, hh, _⟩
  · simp [Value.ownBlock] at hg
  · obtain rfl : g' = g := by simpa [Value.ownBlock] using hg
    exact ⟨kd_cells hh, lt_of hh, hb⟩
set_option maxRecDepth 100000 in
theorem append_e (base ty : Nat) (w : World) (v : Value) (n : Nat) (xs : List Value) (a0 : Nat) (u1 u2 : Value) (h : w.ownsRow base 96 2 v n xs) (hn : n < 1099511627776) (hb : base ≤ w.heap.size)
    (hs : w.heap[a0]? = some (.cells #[u1, u2] 96 (0, 0))) (o1 : u1.oneCell' = true) (o2 : u2.oneCell' = true) :
    ∃ a c w', (Builtin.append_ #[85, 85] ty #[v, .slice (some ⟨a0, 0, none⟩) 1 1]).run Tryz.prog w = .ok (.slice a (n + 1) c) w' ∧ w'.ownsRow base 96 2 (.slice a (n + 1) c) (n + 1) (xs ++ [u1, u2]) ∧ w.grownBy w' v.ownBlock ∧ ((Value.slice a (n + 1) c).ownBlock = v.ownBlock ∨ (Below w.heap.size w w' ∧ ∀ g, (Value.slice a (n + 1) c).ownBlock = some g → w.heap.size ≤ g)) := by
  obtain ⟨i, hi, hz0, hz1, hz2⟩ := parts info96
  have hnews : ∀ (j : Nat) u, [u1, u2][j]? = some u → w.cell? ((⟨a0, 0, none⟩ : Addr).add j) = some u := fun j u hj => by
    have e : (⟨a0, 0, none⟩ : Addr).add j = ⟨a0, j, none⟩ := by unfold Addr.add; by_cases h0 : j = 0 <;> simp [h0]
    rw [e, Lib.cell_of_heap hs, ← hj]
    simp
  have h1 : ∀ u ∈ [u1, u2], u.oneCell' = true := fun u hu => by
    simp only [List.mem_cons, List.not_mem_nil, or_false] at hu
    rcases hu with rfl | rfl <;> assumption
  obtain ⟨v', w', hr, h2, h3, h4⟩ := run_append_own (P := Tryz.prog) w base 85 ty 96 i _ 2 24 Tryz.underlying85 hi hz0 hz1 hz2 rfl (by decide) v n xs h ⟨a0, 0, none⟩ 1 1 [u1, u2] rfl hnews h1 (by unfold maxLen; omega) (by omega) hb
  obtain ⟨a, c, rfl⟩ := shape h2
  refine ⟨a, c, w', hr, h2, h3, ?_⟩
  rcases h.2 with ⟨rfl, hn0⟩ | ⟨g, cap, cur, rfl, hbg, hg, hnc, hcm, hcs, htake⟩
  · subst hn0
    have hx : xs = [] := List.length_eq_zero_iff.1 (by rw [h.1])
    subst hx
    obtain ⟨v2, w2, hr2, h5, _, _⟩ := run_append_own (P := Tryz.prog) w w.heap.size 85 ty 96 i _ 2 24 Tryz.underlying85 hi hz0 hz1 hz2 rfl (by decide) (.slice none 0 0) 0 [] (World.ownsRow_nil _ _ _ _) ⟨a0, 0, none⟩ 1 1 [u1, u2] rfl hnews h1 (by unfold maxLen; omega) (by omega) (Nat.le_refl _)
    rw [hr] at hr2
    injection hr2 with e1 e2
    subst e1
    exact Or.inr ⟨⟨h3.os, h3.tape, h3.output, h3.size, fun k hk => h3.block k hk (by simp [Value.ownBlock])⟩, fun g hg => (h5.lt g hg).1⟩
  · by_cases hroom : n + 1 ≤ cap
    · have hr2 := run_append_room (P := Tryz.prog) w 85 ty 96 i Tryz.underlying85 hi g n cap cur hg ⟨a0, 0, none⟩ 1 1 [u1, u2] (by rw [hz1]; rfl) hnews h1 hroom (by rw [hz1, hcs]; simp; omega)
      rw [hr] at hr2
      injection hr2 with e1 e2
      rw [e1]
      exact Or.inl rfl
    · have hr2 := run_append_grow (P := Tryz.prog) w 85 ty 96 i _ Tryz.underlying85 hi hz0 ⟨g, 0, none⟩ n cap xs (by rw [hz1]; exact h.1) (h.cells (g := g) rfl) ⟨a0, 0, none⟩ 1 1 [u1, u2] (by rw [hz1]; rfl) hnews (by omega) (by omega) (growslice_fits (by omega) (by rw [hz2]; omega))
      rw [hr] at hr2
      injection hr2 with e1 e2
      rw [e1, e2]
      refine Or.inr ⟨(Below.refl _ w).drew.alloc (Nat.le_refl _) _, fun g2 hg2 => ?_⟩
      have e : w.heap.size = g2 := by simpa [Value.ownBlock] using hg2
      exact Nat.le_of_eq e
/-- from the box on -/
theorem push_end {M : Nat → Prop} {b bm x : Nat} {ev : Value} {l : Es} {e : Bs × Int} {D : DataW Unit} {W1 : World} (idx : W1.heap[b]? = some (.cells #[ev, .map (some bm)] 90 (0, 0))) (bb : M b) (hbm : M bm) (ent : W1.ownsRow 0 96 2 ev l.length (l.flatMap cS))
    (own : W1.ownsMap Tryz.prog 9 (plainElem Tryz.prog 3) bm l.length D) (sp : Spots lS D l) (ap : Apart l) (wide : ∀ e ∈ l, e.1.length ≤ 281474976710656) (we : e.1.length ≤ 281474976710656) (hne : ∀ i, i < l.length → (pl l i).1 ≠ e.1) (hx : W1.heap[x]? = some (.cells #[.string (mk e.1), .int .i64 e.2] 96 (0, 0))) (hl : l.length < 1099511627776) (eb : ∀ g, ev.ownBlock = some g → M g) (up : ∀ k, W1.heap.size ≤ k → M k) :
    ∃ a c a' c' W2 W3, ev = .slice a l.length c ∧
      (W1.cell? ⟨b, 0, none⟩ = some (.slice a l.length c) ∧ W1.cell? ⟨b, 1, none⟩ = some (.map (some bm)) ∧ W1.cell? ⟨x, 0, none⟩ = some (.string (mk e.1)) ∧ (Instr.mapUpdate 86 (.map (some bm)) (.string (mk e.1)) (.int .i64 (l.length : Int))).run Tryz.prog W1.drew = .ok () W2) ∧
      (W2.drew.cell? ⟨b, 0, none⟩ = some (.slice a l.length c) ∧ (W2.alloc (.cells #[.string (mk e.1), .int .i64 e.2] 96)).cell? ⟨b, 0, none⟩ = some (.slice a l.length c) ∧ W2.drew.cell? ⟨x, 0, none⟩ = some (.string (mk e.1)) ∧ W2.drew.cell? ⟨x, 1, none⟩ = some (.int .i64 e.2) ∧
        (Builtin.append_ #[85, 85] 85 #[.slice a l.length c, .slice (some ⟨W2.heap.size, 0, none⟩) 1 1]).run Tryz.prog (W2.drew.alloc (.cells #[.string (mk e.1), .int .i64 e.2] 96)) = .ok (.slice a' (l.length + 1) c') W3 ∧ W3.cell? ⟨b, 0, none⟩ = some (.slice a l.length c) ∧ W3.frozen? ⟨b, 0, none⟩ = false) ∧
      RS M b (W3.setCell ⟨b, 0, none⟩ (.slice a' (l.length + 1) c')) (l ++ [e]) ∧ Ev M W1 (W3.setCell ⟨b, 0, none⟩ (.slice a' (l.length + 1) c')) := by
  obtain ⟨a, c, rfl⟩ := row_shape ent
  have T0 := own.tidy law9
  obtain ⟨W2, hu, m2, t2⟩ := own.drew.store law9 Tryz.underlying86 (by unfold maxLen; omega) (key9 _ we) (val3 l.length hl)
  have hps := sp.push litS T0 hne
  have m2' := owns_norm m2
  rw [hps.1.size] at m2'
  have o2 : ∀ k, k ≠ bm → W2.heap[k]? = W1.heap[k]? := fun k hk => turned_block t2 k hk
  have nmb : bm ≠ b := owns_cells own idx
  have nmx : bm ≠ x := owns_cells own hx
  have b2 := (o2 b (Ne.symm nmb)).trans idx
  have x2 := (o2 x (Ne.symm nmx)).trans hx
  have e2 : W2.ownsRow 0 96 2 (.slice a l.length c) l.length (l.flatMap cS) := row_later ent fun g hg => o2 g (fun q => by
    have h1 := (row_kd ent hg).1
    obtain ⟨es, cl, q1, _⟩ := own
    rw [q, kd_map q1] at h1
    cases h1)
  have v2 : Ev M W1 W2 := (Ev.refl M W1).drew.trans (Ev.turned t2 hbm)
  obtain ⟨V, hV⟩ : ∃ V, V = W2.drew.alloc (.cells #[.string (mk e.1), .int .i64 e.2] 96) := ⟨_, rfl⟩
  have vV : Ev M W1 V := by rw [hV]; exact (v2.drew).alloc _
  have hbl := lt_of b2
  have lowV : ∀ k, k < W2.heap.size → V.heap[k]? = W2.heap[k]? := fun k hk => by rw [hV]; exact Below.heap_alloc W2.drew _ k hk
  have eV : V.ownsRow 0 96 2 (.slice a l.length c) l.length (l.flatMap cS) := row_later e2 fun g hg => lowV g (row_kd e2 hg).2.1
  have bV : V.heap[b]? = _ := (lowV b hbl).trans b2
  have mV : V.ownsMap Tryz.prog 9 (plainElem Tryz.prog 3) bm (l ++ [e]).length (D.put (lS e.1) (num l.length)) := by rw [hV]; exact (m2'.drew).alloc _
  have nV : V.heap[W2.heap.size]? = some (.cells #[.string (mk e.1), .int .i64 e.2] 96 (0, 0)) := by rw [hV]; exact new_at W2.drew _
  obtain ⟨a', c', W3, hr, ho, hg, hw⟩ := append_e 0 85 V (.slice a l.length c) l.length _ W2.heap.size _ _ eV hl (Nat.zero_le _) nV rfl rfl
  have ev3 : Ev M V W3 := by
    rcases hw with q | ⟨hbl, _⟩
    · cases hq : (Value.slice a l.length c).ownBlock with
      | none => rw [hq] at hg; exact Ev.none hg
      | some g =>
        rw [hq] at hg q
        exact Ev.one hg (eb g hq)
    · exact Ev.of_below hbl
  have b3 : W3.heap[b]? = _ := (hg.block b (lt_of bV) (fun q => by
    have := (row_kd eV q.symm).1
    rw [kd_cells bV] at this
    cases this)).trans bV
  have m3 : W3.ownsMap Tryz.prog 9 (plainElem Tryz.prog 3) bm (l ++ [e]).length (D.put (lS e.1) (num l.length)) := mV.kept hg (fun q => by
    have := (row_kd eV q.symm).1
    obtain ⟨es, cl, q1, _⟩ := mV
    rw [kd_map q1] at this
    cases this)
  have wl : ∀ y ∈ l ++ [e], y.1.length ≤ 281474976710656 := fun y hy => by
    rcases List.mem_append.1 hy with q | q
    · exact wide y q
    · rw [List.mem_singleton.1 q]; exact we
  refine ⟨a, c, a', c', W2, W3, rfl, ⟨Lib.cell_of_heap idx 0, Lib.cell_of_heap idx 1, Lib.cell_of_heap hx 0, hu⟩, ⟨Lib.cell_of_heap b2 0, ?_, Lib.cell_of_heap x2 0, Lib.cell_of_heap x2 1, by rw [← hV]; exact hr, Lib.cell_of_heap b3 0, Lib.frozen_of_heap b3 0⟩, ⟨.slice a' (l.length + 1) c', .map (some bm), ⟨set_at b3 _, bb, ?_, .inr ⟨bm, _, rfl, hbm, m3.setCell nmb _, hps.1⟩, ap.push hne, wl, fun g hg2 => ?_, fun k hk => up k (Nat.le_trans ((vV.trans ev3).trans (Ev.set (i := 0) bb (.slice a' (l.length + 1) c'))).size hk)⟩⟩, (vV.trans ev3).trans (Ev.set bb _)⟩
  · exact (World.cell?_alloc_lt _ _ _ hbl).trans (Lib.cell_of_heap b2 0)
  · rw [List.length_append, List.flatMap_append]
    simp only [List.length_singleton, List.flatMap_cons, List.flatMap_nil, List.append_nil]
    refine row_later ho fun g hg2 => set_ne (fun q => ?_) _
    have := (row_kd ho hg2).1
    rw [q, kd_cells b3] at this
    cases this
  · rcases hw with q | ⟨_, q⟩
    · exact eb g (by rw [← q]; exact hg2)
    · exact up g (Nat.le_trans vV.size (q g hg2))
end Go.Proofs.YtminfpkigenahaaGreatDoor.Push
end
