/- The queue's calls that turn it: put, pass, drop. -/
import Derived.Test.YthmfgnagpifnlaaQueue
namespace Go.Proofs.Ythmfgnagpifnlaa.Queue2
open Go.RowKit
open Go.Proofs.Ythmfgnagpifnlaa.PipeMath
open Go.Proofs.Ythmfgnagpifnlaa.Base
open Go.Proofs.Ythmfgnagpifnlaa.Queue
set_option linter.unusedVariables false

theorem info5 : (Try.prog.info? 5).map (fun i => (i.zero, i.size, i.bytes)) = some (some (.int .u8 0), 1, 1) := by kernel_rfl
theorem info73 : (Try.prog.info? 73).map (fun i => (i.zero, i.size, i.bytes)) = some (some (.pointer none), 1, 8) := by kernel_rfl
theorem info89 : (Try.prog.info? 89).map (fun i => (i.zero, i.size, i.bytes)) = some (some (.agg #[.string ⟨#[]⟩, .string ⟨#[]⟩, .int .i64 0, .int .i64 0, .bool false, .bool false, .bool false, .bool false]), 8, 56) := by kernel_rfl
theorem parts {e : TypeId} {z : Value} {n m : Nat} (h : (Try.prog.info? e).map (fun i => (i.zero, i.size, i.bytes)) = some (some z, n, m)) : ∃ i, Try.prog.info? e = some i ∧ i.zero = some z ∧ i.size = n ∧ i.bytes = m := by
  cases hi : Try.prog.info? e with
  | none => rw [hi] at h; cases h
  | some i =>
    rw [hi] at h
    simp at h
    exact ⟨i, rfl, h.1, h.2.1, h.2.2⟩
theorem app_cells (t : Bs) (s : ByteArray) : tx (t ++ bs s) = tx t ++ Lib.strCells s := by
  show ((t ++ s.data.toList).toArray.toList.map _) = t.toArray.toList.map _ ++ s.data.toList.map _
  simp
set_option maxRecDepth 100000 in
theorem append_str (ty : Nat) (w : World) (v : Value) (t : Bs) (s : ByteArray) (h : w.ownsRow 0 5 1 v t.length (tx t)) (hz : t.length + s.size ≤ 140737488355328) :
    ∃ a c w', (Builtin.append_ #[74, 9] ty #[v, .string s]).run Try.prog w = .ok (.slice a (t.length + s.size) c) w' ∧ w'.ownsRow 0 5 1 (.slice a (t.length + s.size) c) (t ++ bs s).length (tx (t ++ bs s)) ∧ w.grownBy w' v.ownBlock ∧ ∀ g, (Value.slice a (t.length + s.size) c).ownBlock = some g → v.ownBlock = some g ∨ w.heap.size ≤ g := by
  obtain ⟨i, hi, hz0, hz1, hz2⟩ := parts info5
  obtain ⟨v', w', hr, h2, h3, h4⟩ := Lib.run_append_own_string (P := Try.prog) w 0 74 9 ty 5 i Try.underlying74 Try.underlying9 hi hz0 hz1 hz2 v t.length _ h s (by unfold maxLen; omega) hz (Nat.zero_le _)
  obtain ⟨a, c, rfl⟩ := row_shape h2
  refine ⟨a, c, w', hr, ?_, h3, ?_⟩
  · rw [app_cells, List.length_append, len_bs]; exact h2
  · have hs := Src.ofString (P := Try.prog) w Try.underlying9 s
    rcases h.2 with ⟨rfl, hn⟩ | ⟨g, cap, cur, rfl, hbg, hg, hnc, hcm, hcs, htake⟩
    · have ht : t = [] := List.length_eq_zero_iff.1 hn
      subst ht
      obtain ⟨v2, w2, hr2, h5, _, _⟩ := Lib.run_append_own_string (P := Try.prog) w w.heap.size 74 9 ty 5 i Try.underlying74 Try.underlying9 hi hz0 hz1 hz2 (.slice none 0 0) 0 [] (World.ownsRow_nil _ _ _ _) s (by unfold maxLen; simp at hz; omega) (by simpa using hz) (Nat.le_refl _)
      rw [hr] at hr2
      injection hr2 with e1 e2
      subst e1
      exact fun g hg => Or.inr (h5.lt g hg).1
    · by_cases hroom : t.length + s.size ≤ cap
      · have hcell : ∀ j, j < (Lib.strCells s).length → (w.cell? ⟨g, 0 + t.length * i.size + j, none⟩).isSome = true := by
          intro j hj
          rw [Lib.strCells_length] at hj
          rw [Lib.cell_of_heap hg, hz1, Array.getElem?_eq_getElem (by omega)]
          rfl
        have hr2 := run_append_room_src (P := Try.prog) w 74 9 ty 5 i Try.underlying74 hi g 0 t.length cap (.string s) s.size (Lib.strCells s) (by rw [hz1]; exact hs) hroom hcell (fun j _ => Lib.frozen_of_heap hg _)
        rw [hr] at hr2
        injection hr2 with e1 e2
        rw [e1]
        exact fun g hg => Or.inl hg
      · have hold : (Builtin.firstCells i.size t.length (.slice (some ⟨g, 0, none⟩) t.length cap)).run Try.prog w.drew = .ok (tx t).toArray w.drew := by
          refine run_firstCells_some (P := Try.prog) w.drew i.size t.length ⟨g, 0, none⟩ t.length cap (tx t) (by unfold tx; rw [Lib.strCells_length, hz1, Nat.mul_one, mk_size]) ?_
          intro j u hj
          exact h.cells (g := g) rfl j u hj
        have hr2 := run_append_grow_src (P := Try.prog) w 74 9 ty 5 i (.int .u8 0) Try.underlying74 hi hz0 (some ⟨g, 0, none⟩) t.length cap (tx t) hold (.string s) s.size (Lib.strCells s) (by rw [hz1]; exact hs) (by omega) (by omega) (growslice_fits (by omega) (by rw [hz2]; omega))
        rw [hr] at hr2
        injection hr2 with e1 e2
        rw [e1]
        refine fun g2 hg2 => Or.inr ?_
        have e : w.heap.size = g2 := by simpa [Value.ownBlock] using hg2
        exact Nat.le_of_eq e
section
variable {ops : Array Oper} {rest : List Oper} {o : Oper} {a : Act} {Q : Exit → Act → World → Prop}
theorem wpl_eq (hgd : o.guard = none) (s x : Operand) (t tx : TypeId) (ho : o.op = .call { callee := .builtin .append, args := #[s, x], argTypes := #[t, tx] }) (v u v' : Value) (W W' : World) (hs : a.eval s = v) (hx : a.eval x = u)
    (hr : (Builtin.append_ #[t, tx] o.type #[v, u]).run Try.prog W = .ok v' W') (hK : wpList Try.prog ops Q rest (a.put o.dst v') W') : wpList Try.prog ops Q (o :: rest) a W := by
  refine wpList_plain hgd fun K hK2 => ?_
  unfold Oper.wp execOp
  simp only [ho, resolve, invoke, builtin, Sem.run_bind, Sem.run_pure, Result.andThen_ok, List.map_toArray, List.map_cons, List.map_nil, hs, hx, hr]
  exact hK2 _ _ hK
end
def QF (f : Nat) (v : Value) : Nat → Prop := fun k => k = f ∨ v.ownBlock = some k
set_option maxHeartbeats 1000000 in
set_option maxRecDepth 100000 in
theorem put_call (f o : Nat) (cs : Array Value) (v : Value) (t : Bs) (s : ByteArray) (w : World) (hb : w.heap[f]? = some (.cells cs 82 (0, 0))) (hv : cs[o]? = some v) (hr : w.ownsRow 0 5 1 v t.length (tx t)) (hz : t.length + s.size ≤ 140737488355328) :
    Calls Try.prog 49 #[qp f o, .string s] w fun e w' => e = .returned (.tuple #[]) ∧ ∃ v', w'.heap[f]? = some (.cells (cs.setIfInBounds o v') 82 (0, 0)) ∧ w'.ownsRow 0 5 1 v' (t ++ bs s).length (tx (t ++ bs s)) ∧ (∀ g, v'.ownBlock = some g → v.ownBlock = some g ∨ w.heap.size ≤ g) ∧ Fr (QF f v) w w' := by
  obtain ⟨a, c, w3, ha, hrow, hgr, hnew⟩ := append_str 74 w v t s hr hz
  have hb3 : w3.heap[f]? = some (.cells cs 82 (0, 0)) := (hgr.block f (lt_of hb) (fun e => by
    obtain ⟨cur, hc⟩ := row_kd hr e.symm
    exact kinds hb hc (by decide) rfl)).trans hb
  have hne : ∀ g, (Value.slice a (t.length + s.size) c).ownBlock = some g → g ≠ f := fun g hg => by
    obtain ⟨cur, hc⟩ := row_kd hrow hg
    exact kinds hc hb3 (by decide)
  have HF : Hid (∃ v', (w3.setCell ⟨f, o, none⟩ (.slice a (t.length + s.size) c)).heap[f]? = some (.cells (cs.setIfInBounds o v') 82 (0, 0)) ∧ (w3.setCell ⟨f, o, none⟩ (.slice a (t.length + s.size) c)).ownsRow 0 5 1 v' (t ++ bs s).length (tx (t ++ bs s)) ∧ (∀ g, v'.ownBlock = some g → v.ownBlock = some g ∨ w.heap.size ≤ g) ∧ Fr (QF f v) w (w3.setCell ⟨f, o, none⟩ (.slice a (t.length + s.size) c))) :=
    ⟨_, set_at hb3 _, row_later hrow (fun g hg => set_ne (hne g hg) _), hnew, (Fr.grown hgr (fun k hk => Or.inr hk)).trans (Fr.set (Or.inl (Or.inl rfl)) _)⟩
  have c0 : w.cell? ⟨f, o, none⟩ = some v := by rw [Lib.cell_of_heap hb]; exact hv
  have c3 : w3.cell? ⟨f, o, none⟩ = some v := by rw [Lib.cell_of_heap hb3]; exact hv
  have f3 : w3.frozen? ⟨f, o, none⟩ = false := Lib.frozen_of_heap hb3 o
  obtain ⟨a1, c1, rfl⟩ := row_shape hr
  clear hr hgr hnew hrow hb hb3 hv hne
  go_enter Try.func49, Try.ntmps49
  go_wp2_with (at_builtin; refine wpl_eq rfl _ _ 74 9 rfl (.slice a1 t.length c1) (.string s) (.slice a (t.length + s.size) c) w w3 rfl rfl ha ?_)
  go_wp2_with fail
  go_end0
  exact ⟨rfl, HF.out⟩
/- pass -/
structure Lk (w w' : World) : Prop where
  os : w'.os = w.os
  tape : w'.tape = w.tape
  output : w'.output = w.output
  heap : w'.heap = w.heap
theorem Lk.fr {F : Nat → Prop} {a b c : World} (h : Fr F a b) (k : Lk b c) : Fr F a c := ⟨k.os.trans h.os, k.tape.trans h.tape, k.output.trans h.output, by rw [k.heap]; exact h.size, fun i hi hn => by rw [k.heap]; exact h.block i hi hn⟩
set_option maxHeartbeats 1000000 in
set_option maxRecDepth 100000 in
theorem pass_call (f o : Nat) (cs : Array Value) (v : Value) (t : Bs) (g : Nat) (most : Int) (w : World) (hb : w.heap[f]? = some (.cells cs 82 (0, 0))) (hv : cs[o]? = some v) (hg : cs[o + 1]? = some (.int .i64 g)) (hgt : g ≤ t.length) (hl : t.length ≤ 140737488355328) (hr : w.ownsRow 0 5 1 v t.length (tx t)) :
    Calls Try.prog 50 #[qp f o, .int .i64 most] w fun e w' => e = .returned (.string (mk ((t.drop g).take (cl most (t.length - g))))) ∧ Lk (w.setCell ⟨f, o + 1, none⟩ (.int .i64 ((g + cl most (t.length - g) : Nat) : Int))) w' := by
  have c0 : w.cell? ⟨f, o, none⟩ = some v := by rw [Lib.cell_of_heap hb]; exact hv
  have c1 : w.cell? ⟨f, o + 1, none⟩ = some (.int .i64 g) := by rw [Lib.cell_of_heap hb]; exact hg
  have f1 : w.frozen? ⟨f, o + 1, none⟩ = false := Lib.frozen_of_heap hb _
  have hcl := cl_le most (t.length - g)
  obtain ⟨D, hD⟩ : ∃ D, D = t.length - g := ⟨_, rfl⟩
  rw [← hD] at hcl ⊢
  obtain ⟨K, hKc⟩ : ∃ K, K = cl most D := ⟨_, rfl⟩
  rw [← hKc] at hcl ⊢
  obtain ⟨a, c, hs, hc⟩ := cut_run hr (lo := g) (hi := g + K) (by omega) (by omega)
  rw [Nat.add_sub_cancel_left] at hc hs
  obtain ⟨X, hX⟩ : ∃ X : Int, (if most < 0 then 0 else most) = X := ⟨_, rfl⟩
  have hK : (if (D : Int) < X then (D : Int) else X) = (K : Int) := by
    rw [hKc, ← hX]
    unfold cl
    split <;> split <;> omega
  obtain ⟨N, hN⟩ : ∃ N, N = g + K := ⟨_, rfl⟩
  have hw : IntKind.i64.wrap ((g : Int) + (K : Int)) = (N : Int) := by rw [hN, IntWalk.i64_in _ (by omega)]; omega
  have HC : Hid (∀ m, (convert 74 9 (.slice a K c)).run Try.prog (((w.drewN m).setCell ⟨f, o + 1, none⟩ (.int .i64 (N : Int))).drew) = .ok (.string (mk ((t.drop g).take K))) (((w.drewN m).setCell ⟨f, o + 1, none⟩ (.int .i64 (N : Int))).drew)) := fun m => hc _ (fun k hk => by
    obtain ⟨cur, hcur⟩ := row_kd hr hk
    exact set_ne (w := w.drewN m) (kinds hcur hb (by decide)) _)
  rw [← hN] at hs ⊢
  obtain ⟨a1, c1', rfl⟩ := row_shape hr
  have H1 := hid_of (fun W (h0 : W.cell? ⟨f, o, none⟩ = some (.slice a1 t.length c1')) (h1 : W.cell? ⟨f, o + 1, none⟩ = some (.int .i64 g)) => left_call f o a1 t.length c1' g W hgt (by omega) h0 h1)
  rw [← hD] at H1
  have HB : Hid (∀ m, ((w.drewN m).setCell ⟨f, o + 1, none⟩ (.int .i64 (N : Int))).cell? ⟨f, o, none⟩ = some (.slice a1 t.length c1') ∧ ((w.drewN m).setCell ⟨f, o + 1, none⟩ (.int .i64 (N : Int))).cell? ⟨f, o + 1, none⟩ = some (.int .i64 (N : Int))) := fun m => by
    have hb' : (w.drewN m).heap[f]? = some (.cells cs 82 (0, 0)) := hb
    have hlt : o + 1 < cs.size := (Array.getElem?_eq_some_iff.1 hg).1
    refine ⟨?_, ?_⟩
    · rw [Lib.cell_of_heap (set_at hb' _), Array.getElem?_setIfInBounds_ne (by omega)]; exact hv
    · rw [Lib.cell_of_heap (set_at hb' _), Array.getElem?_setIfInBounds_self_of_lt hlt]
  clear hr hc hN hKc hD hcl hb hv hg
  go_enter Try.func50, Try.ntmps50
  go_wp2_with fail
  go_region_with (first | (go_at_call 42; refine (H1.out w.drew c0 c1).mono ?_; rintro e w1 ⟨rfl, m, rfl⟩))
  all_goals
    have hc3 := HC.out (1 + m)
    obtain ⟨d0, d1⟩ := HB.out (1 + m)
    go_wp2_with fail
    go_region
    go_wp2_with fail
    go_ret
    exact ⟨rfl, ⟨rfl, rfl, rfl, rfl⟩⟩
end Go.Proofs.Ythmfgnagpifnlaa.Queue2
