/- held, Len, fresh, Of, List. lay, free, Of, List. free, Of, List, PushBack, PushFront. PushBack. within, keep. -/
import Derived.Test.YtpibeabokedpdaaGreatDoorDqBaseM
import Derived.Deep.QuietTactic
section
namespace Go.Proofs.YtpibeabokedpdaaGreatDoor.DqHeld
open Go.RowKit
open Go.Proofs.YtpibeabokedpdaaGreatDoor.DqBase
set_option linter.unusedVariables false
set_option linter.unusedSimpArgs false
theorem info3 : (Tryz.prog.info? 3).map (fun i => (i.zero, i.size, i.bytes)) = some (some (V Z), 1, 8) := by kernel_rfl
theorem rd_src {G : Nat → Prop} {w : World} {a : Option Addr} {l : List El} (h : Rd G w a l) (hl : l ≠ []) (c : Nat) : Src Tryz.prog 1 127 (.slice a l.length c) l.length (l.map V) w := by
  rcases h with rfl | ⟨g, o, rfl, _, hc⟩
  · exact absurd rfl hl
  · refine Src.ofSlice (P := Tryz.prog) w Tryz.underlying127 ⟨g, o, none⟩ l.length c (l.map V) (by simp) (fun j u hj => ?_) (fun u hu => by
      obtain ⟨x, _, rfl⟩ := List.mem_map.1 hu
      rfl)
    rw [List.getElem?_map] at hj
    obtain ⟨x, hx, rfl⟩ := Option.map_eq_some_iff.1 hj
    rw [add_off]
    exact hc j x hx
theorem zeros_cells (n : Nat) : Builtin.zeroCells (V Z).cells n = cells (List.replicate n Z) := by
  apply Array.ext'
  rw [show (V Z).cells = #[V Z] from rfl]
  simp [Builtin.zeroCells, cells]
  apply List.ext_getElem
  · simp
  · intro i h1 h2
    simp [Nat.mod_one]
/-- a list appended to nothing -/
theorem app_nil {G : Nat → Prop} {w : World} {a : Option Addr} {l : List El} {c : Nat} (h : Rd G w a l) (hb : l.length * 8 ≤ 140737488355328) (ty : TypeId) :
    ∃ v w', (Builtin.append_ #[127, 127] ty #[.slice none 0 0, .slice a l.length c]).run Tryz.prog w = .ok v w' ∧ NR w.heap.size w' v l ∧ Below w.heap.size w w' := by
  obtain ⟨i, hi, hz0, hz1, hz2⟩ := info_parts info3
  by_cases hl : l = []
  · subst hl
    refine ⟨.slice none 0 0, w, ?_, .inl ⟨rfl, rfl⟩, Below.refl _ _⟩
    cases a with
    | none => simp [Builtin.append_, run_underlying Tryz.underlying127, Builtin.lenOf, Builtin.firstCells, sizeOf, typeInfo, hi]
    | some x =>
      have hl := run_loadCells_list (P := Tryz.prog) w x [] (by simp)
      simp at hl
      simp [Builtin.append_, run_underlying Tryz.underlying127, Builtin.lenOf, Builtin.firstCells, sizeOf, typeInfo, hi, hz1, hl]
  · have hs : Src Tryz.prog i.size 127 (.slice a l.length c) l.length (l.map V) w := by rw [hz1]; exact rd_src h hl c
    have hp : 0 < l.length := List.length_pos_iff.2 hl
    have hr := run_append_grow_src (P := Tryz.prog) w 127 127 ty 3 i (V Z) Tryz.underlying127 hi hz0 none 0 0 [] (by simp [Builtin.firstCells]) (.slice a l.length c) l.length (l.map V) hs (by omega) (by omega) (growslice_fits (by omega) (by rw [hz2]; omega))
    rw [Nat.zero_add, List.nil_append] at hr
    have hge := grownCap_ge w l.length 0 3
    refine ⟨_, _, hr, .inr ⟨w.heap.size, grownCap w l.length 0 3, l ++ List.replicate (grownCap w l.length 0 3 - l.length) Z, rfl, Nat.le_refl _, ?_, by simp; omega, hge, by simp⟩, (Below.refl _ w).drew.alloc (Nat.le_refl _) _⟩
    unfold RowIs
    rw [show w.heap.size = w.drew.heap.size from rfl, heap_alloc_new w.drew, zeros_cells]
    simp [cells]
section
variable {ops : Array Oper} {rest : List Oper} {o : Oper} {a : Act} {Q : Exit → Act → World → Prop}
theorem wpl_eq (hgd : o.guard = none) (s x : Operand) (t tx : TypeId) (ho : o.op = .call { callee := .builtin .append, args := #[s, x], argTypes := #[t, tx] }) (v u v' : Value) (W W' : World) (hs : a.eval s = v) (hx : a.eval x = u)
    (hr : (Builtin.append_ #[t, tx] o.type #[v, u]).run Tryz.prog W = .ok v' W') (hK : wpList Tryz.prog ops Q rest (a.put o.dst v') W') : wpList Tryz.prog ops Q (o :: rest) a W := by
  refine wpList_plain hgd fun K hK2 => ?_
  unfold Oper.wp execOp
  simp only [ho, resolve, invoke, builtin, Sem.run_bind, Sem.run_pure, Result.andThen_ok, List.map_toArray, List.map_cons, List.map_nil, hs, hx, hr]
  exact hK2 _ _ hK
end
end Go.Proofs.YtpibeabokedpdaaGreatDoor.DqHeld
end
section
namespace Go.Proofs.YtpibeabokedpdaaGreatDoor.DqLay
open Go.RowKit
open Go.Proofs.YtpibeabokedpdaaGreatDoor.DqBase
open Go.Proofs.YtpibeabokedpdaaGreatDoor.DqHeld
set_option linter.unusedVariables false
set_option linter.unusedSimpArgs false
theorem made_row (n : Nat) : (madeCells #[V Z] n).toList = (List.replicate n Z).map V := by
  rw [toList_madeCells_one]
  simp
theorem row_of_own {w : World} {base g n : Nat} (h : w.ownsRow base 3 1 (.slice (some ⟨g, 0, none⟩) n n) n (madeCells #[V Z] n).toList) : RowIs w g (List.replicate n Z) := by
  rw [made_row] at h
  rcases h.2 with ⟨e, _⟩ | ⟨g', cap, cur, e, hb, hg, h1, h2, h3, h4⟩
  · cases e
  · simp only [Value.slice.injEq, Option.some.injEq, Addr.mk.injEq] at e
    obtain ⟨⟨rfl, -⟩, -, rfl⟩ := e
    unfold RowIs
    rw [hg, show cur = cells (List.replicate n Z) from by
      apply Array.ext'
      rw [← List.take_of_length_le (l := cur.toList) (i := n * 1) (by simp; omega), h4]
      simp [cells]]
theorem size_some : (Tryz.prog.info? 3).map (·.size) = some 1 := by kernel_rfl
/-- copy: what is read first is laid -/
theorem copy_run {G : Nat → Prop} {w : World} {g : Nat} {xs : List El} (hr : RowIs w g xs) {d : Option Addr} {o dn dc : Nat} {sa : Option Addr} {s : List El} {sc : Nat} (hs : Rd G w sa s) (hd : 0 < (s.take dn).length → d = some ⟨g, o, none⟩) (ho : o + (s.take dn).length ≤ xs.length) :
    ∃ w', (∀ ty, (Builtin.copy_ #[127, 127] ty #[.slice d dn dc, .slice sa s.length sc]).run Tryz.prog w = .ok (goInt (s.take dn).length) w') ∧ RowIs w' g (lay xs o (s.take dn)) ∧ ∃ cs, w' = w.setRow g cs := by
  by_cases q : (s.take dn) = []
  · have h0 : Nat.min s.length dn = 0 := by
      have := congrArg List.length q
      simp at this
      rcases this with h | h
      · subst h; simp
      · subst h; simp
    refine ⟨w, fun ty => ?_, by rw [q, lay_nil]; exact hr, cells xs, (setRow_self w g _ 3 (0, 0) hr).symm⟩
    rw [q]
    exact run_copy_none w 127 127 ty 3 d sa dn dc s.length sc Tryz.underlying127 size_some h0
  · have hp : 0 < (s.take dn).length := List.length_pos_iff.2 q
    rw [hd hp]
    rcases hs with rfl | ⟨g', o', rfl, _, hc⟩
    · simp at hp
    · refine ⟨_, fun ty => ?_, hr.lay o (s.take dn), _, rfl⟩
      have := run_copy_row Tryz.prog w 127 127 ty 3 g o dn dc ⟨g', o', none⟩ s.length sc (cells xs) 3 ((s.take dn).map V) Tryz.underlying127 size_some hr (by rw [List.length_map, List.length_take]; exact Nat.min_comm _ _) (fun j v hj => by
        rw [List.getElem?_map, List.getElem?_take] at hj
        rw [add_off]
        split at hj
        · obtain ⟨x, hx, rfl⟩ := Option.map_eq_some_iff.1 hj
          exact hc j x hx
        · cases hj) (by rw [List.length_map, cells_size]; exact ho) (fun v hv => by
        obtain ⟨x, _, rfl⟩ := List.mem_map.1 hv
        rfl)
      rw [this, List.length_map]
theorem lay_is (s n : Nat) (l : List El) (h : s + l.length ≤ n) : ((lay (List.replicate n Z) s l).drop s).take l.length = l := by
  unfold lay
  rw [List.append_assoc, List.drop_append_of_le_length (by simp; omega)]
  have : ((List.replicate n Z).take s).drop s = [] := by simp; omega
  rw [this]
  simp
end Go.Proofs.YtpibeabokedpdaaGreatDoor.DqLay
end
section
namespace Go.Proofs.YtpibeabokedpdaaGreatDoor.DqFree
open Go.RowKit
open Go.Proofs.YtpibeabokedpdaaGreatDoor.DqBase
open Go.Proofs.YtpibeabokedpdaaGreatDoor.DqHeld
open Go.Proofs.YtpibeabokedpdaaGreatDoor.DqLay
set_option linter.unusedVariables false
set_option linter.unusedSimpArgs false
theorem DK.up {F : Nat → Prop} {b : Nat} {a : Option Addr} {n c f : Nat} {xs l : List El} {w : World} (h : DK F b a n c f xs l w) (w0 : World) : DK (Gr F w0) b a n c f xs l w := h.mono fun _ _ e => .inl e
theorem DK.drewN {F : Nat → Prop} {b : Nat} {a : Option Addr} {n c f : Nat} {xs l : List El} {w : World} (h : DK F b a n c f xs l w) (m : Nat) : DK F b a n c f xs l (w.drewN m) := h.keep fun _ _ _ => rfl
theorem NR.shape {B : Nat} {w : World} {v : Value} {l : List El} (h : NR B w v l) : ∃ a c, v = .slice a l.length c ∧ l.length ≤ c ∧ ((a = none ∧ c = 0) ∨ ∃ g xs, a = some ⟨g, 0, none⟩ ∧ B ≤ g ∧ xs.length = c ∧ RowIs w g xs ∧ xs.take l.length = l) := by
  rcases h with ⟨rfl, rfl⟩ | ⟨g, c, xs, rfl, hB, hr, hx, hl, ht⟩
  · exact ⟨none, 0, rfl, Nat.le_refl _, .inl ⟨rfl, rfl⟩⟩
  · exact ⟨_, c, rfl, hl, .inr ⟨g, xs, rfl, hB, hx, hr, ht⟩⟩
end Go.Proofs.YtpibeabokedpdaaGreatDoor.DqFree
end
section
namespace Go.Proofs.YtpibeabokedpdaaGreatDoor.DqPush
open Go.RowKit
open Go.Proofs.YtpibeabokedpdaaGreatDoor.DqBase
open Go.Proofs.YtpibeabokedpdaaGreatDoor.DqHeld
open Go.Proofs.YtpibeabokedpdaaGreatDoor.DqLay
open Go.Proofs.YtpibeabokedpdaaGreatDoor.DqFree
set_option linter.unusedVariables false
set_option linter.unusedSimpArgs false
theorem back_is {xs l m : List El} {f : Nat} (h : (xs.drop f).take l.length = l) (hx : f + l.length + m.length ≤ xs.length) : ((lay xs (f + l.length) m).drop f).take (l ++ m).length = l ++ m := by
  have e1 : (xs.take (f + l.length)).drop f = l := by rw [List.drop_take, show f + l.length - f = l.length by omega, h]
  have e2 : (xs.take (f + l.length)).length = f + l.length := by simp; omega
  unfold lay
  rw [List.append_assoc, List.drop_append_of_le_length (by omega), e1, ← List.append_assoc, List.take_left']
  rfl
theorem SL.shape {G : Nat → Prop} {w : World} {v : Value} {m : List El} (h : SL G w v m) : ∃ a c, v = .slice a m.length c ∧ m.length ≤ c ∧ Rd G w a m := h
theorem rd_fr {F : Nat → Prop} {w w' : World} {a : Option Addr} {m : List El} (h : Rd (fun k => ¬ F k) w a m) (f : Fr F w w') : Rd (fun k => ¬ Gr F w k) w' a m := by
  refine (h.lt.keep fun k hk hn => f.block k hk hn.1).mono fun k _ hn e => ?_
  rcases e with e | e
  · exact hn.1 e
  · exact absurd hn.2 (by omega)
/-- what a copy behind the last element does -/
theorem copy_back {F G : Nat → Prop} {b : Nat} {a : Option Addr} {n c f : Nat} {xs l m : List El} {w : World} (h : DK F b a n c f xs l w) {am : Option Addr} {cm : Nat} (hm : Rd G w am m) (hf : f + l.length + m.length ≤ n) :
    ∃ W2 xs', (∀ ty, (Builtin.copy_ #[127, 127] ty #[.slice (ca a c (f + l.length)) (n - (f + l.length)) (c - (f + l.length)), .slice am m.length cm]).run Tryz.prog w = .ok (goInt m.length) W2) ∧
      DK F b a n c f xs' (l ++ m) (W2.setCell ⟨b, 2, none⟩ (.int .i64 ((f + l.length + m.length : Nat) : Int))) ∧ Fr F w W2 ∧ W2.heap[b]? = w.heap[b]? := by
  have hnc := h.nc
  by_cases q : m = []
  · subst q
    refine ⟨w, xs, fun ty => run_copy_none w 127 127 ty 3 _ _ _ _ _ _ Tryz.underlying127 size_some (by simp), ⟨?_, h.own, by simpa using h.fit, h.nc, h.lim, ?_, by simpa using h.is⟩, Fr.refl _ _, rfl⟩
    · rw [set_at h.blk]; simp
    · rcases h.row with r | ⟨g, e, hF, hx, hr⟩
      · exact .inl r
      · exact .inr ⟨g, e, hF, hx, (set_ne (Ne.symm (h.ne hr)) _).trans hr⟩
  · have hp : 0 < m.length := List.length_pos_iff.2 q
    have htk : m.take (n - (f + l.length)) = m := List.take_of_length_le (by omega)
    rcases h.row with ⟨_, rfl⟩ | ⟨g, rfl, hF, hx, hr⟩
    · omega
    · obtain ⟨W2, hcp, hr2, cs, hw2⟩ := copy_run (d := ca (some ⟨g, 0, none⟩) c (f + l.length)) (o := f + l.length) (dn := n - (f + l.length)) (dc := c - (f + l.length)) (sc := cm) hr hm (fun _ => by rw [ca_some _ _ _ _ (by omega), Nat.zero_add]) (by rw [htk]; omega)
      rw [htk] at hcp hr2
      have hb2 : W2.heap[b]? = w.heap[b]? := by rw [hw2, row_ne (h.ne hr)]
      refine ⟨W2, _, hcp, ⟨?_, h.own, by rw [List.length_append]; omega, h.nc, h.lim, .inr ⟨g, rfl, hF, by rw [lay_len (by omega)]; exact hx, (set_ne (Ne.symm (h.ne hr)) _).trans hr2⟩, back_is h.is (by omega)⟩, by rw [hw2]; exact Fr.row hF _, hb2⟩
      rw [set_at (hb2.trans h.blk)]
      simp [Nat.add_assoc]
end Go.Proofs.YtpibeabokedpdaaGreatDoor.DqPush
end
section
namespace Go.Proofs.YtpibeabokedpdaaGreatDoor.DqKeep
open Go.RowKit
open Go.Proofs.YtpibeabokedpdaaGreatDoor.DqBase
open Go.Proofs.YtpibeabokedpdaaGreatDoor.DqHeld
open Go.Proofs.YtpibeabokedpdaaGreatDoor.DqLay
open Go.Proofs.YtpibeabokedpdaaGreatDoor.DqFree
open Go.Proofs.YtpibeabokedpdaaGreatDoor.DqPush
set_option linter.unusedVariables false
set_option linter.unusedSimpArgs false
/-- a count that is neither below 0 nor past what there is -/
def clamp (x : Int) (k : Nat) : Nat := if x < 0 then 0 else if (k : Int) < x then k else x.toNat
theorem clamp_le (x : Int) (k : Nat) : clamp x k ≤ k := by unfold clamp; split <;> (try split) <;> omega
theorem ret_int {k : IntKind} {a b : Int} (h : a = b) : Ending.returned (.int k a) = .returned (.int k b) := by rw [h]
theorem within_call (x : Int) (k : Nat) (w : World) : Calls Tryz.prog 182 #[.int .i64 x, .int .i64 (k : Int)] w fun e w' => e = .returned (.int .i64 ((clamp x k : Nat) : Int)) ∧ w' = w := by
  have e0 : min (max x 0) (k : Int) = ((clamp x k : Nat) : Int) := by unfold clamp; split <;> (try split) <;> omega
  have H := hid_of e0
  clear e0
  go_enter Tryz.func182, Tryz.ntmps182
  go_wp2
  all_goals
    go_ret
    exact ⟨ret_int (by have := H.out; (try (split at *)) <;> omega), rfl⟩
theorem zero3 (w : World) : (zeroValue 3).run Tryz.prog w = .ok (V Z) w := by kernel_rfl
theorem zcells (k : Nat) : (Builtin.zeroCells (V Z).cells k).toList = (List.replicate k Z).map V := by
  rw [zeros_cells]; simp [cells]
/-- clear -/
theorem clear_run {w : World} {g : Nat} {xs : List El} (hr : RowIs w g xs) {d : Option Addr} {o k dc : Nat} (hd : 0 < k → d = some ⟨g, o, none⟩) (ho : o + k ≤ xs.length) :
    ∃ w', (∀ ty, (Builtin.clear_ #[127] ty #[.slice d k dc]).run Tryz.prog w = .ok (.tuple #[]) w') ∧ RowIs w' g (lay xs o (List.replicate k Z)) ∧ ∃ cs, w' = w.setRow g cs := by
  rcases Nat.eq_zero_or_pos k with rfl | hp
  · refine ⟨w, fun ty => ?_, by simpa [lay] using hr, cells xs, (setRow_self w g _ 3 (0, 0) hr).symm⟩
    cases d <;> simp [Builtin.clear_, run_underlying Tryz.underlying127]
  · rw [hd hp]
    refine ⟨_, fun ty => ?_, hr.lay o (List.replicate k Z), _, rfl⟩
    obtain ⟨m, rfl⟩ : ∃ m, k = m + 1 := ⟨k - 1, by omega⟩
    have hst := run_storeCells_at Tryz.prog g o 3 ((List.replicate (m + 1) Z).map V) 0 (cells xs) w hr (by rw [List.length_map, List.length_replicate, cells_size]; omega) (fun v hv => by
      obtain ⟨x, _, rfl⟩ := List.mem_map.1 hv
      rfl)
    simp only [Nat.add_zero] at hst
    have hz := zcells (m + 1)
    have hz2 : (Builtin.zeroCells (V Z).cells (m + 1)).toList = (Builtin.zeroCells (Value.int .i64 0).cells (m + 1)).toList := rfl
    simp [Builtin.clear_, run_underlying Tryz.underlying127, zero3]
    rw [← hz2, hz, hst]
    simp
theorem lay_before {xs : List El} {o : Nat} {cs : List El} {k : Nat} (h : k < o) (ho : o ≤ xs.length) : (lay xs o cs)[k]? = xs[k]? := by
  unfold lay
  rw [List.append_assoc, List.getElem?_append_left (by simp; omega), List.getElem?_take_of_lt h]
theorem lay_behind {xs : List El} {o : Nat} {cs : List El} {k : Nat} (h : o + cs.length ≤ k) (ho : o + cs.length ≤ xs.length) : (lay xs o cs)[k]? = xs[k]? := by
  unfold lay
  rw [List.getElem?_append_right (by simp; omega), List.getElem?_drop]
  congr 1
  simp
  omega
/-- a part of what stands there -/
theorem part_is {xs ys l : List El} {f i j : Nat} (h : (xs.drop f).take l.length = l) (hj : j ≤ l.length) (hy : ∀ k, f + i ≤ k → k < f + j → ys[k]? = xs[k]?) : (ys.drop (f + i)).take ((l.drop i).take (j - i)).length = (l.drop i).take (j - i) := by
  apply List.ext_getElem?
  intro k
  have hL : ((l.drop i).take (j - i)).length = j - i := by simp; omega
  rw [hL, List.getElem?_take, List.getElem?_take]
  by_cases q : k < j - i
  · rw [if_pos q, if_pos q, List.getElem?_drop, List.getElem?_drop, hy _ (by omega) (by omega), ← h, List.getElem?_take, if_pos (by omega), List.getElem?_drop]
    congr 1
    omega
  · rw [if_neg q, if_neg q]
/-- the two clears of keep: of what is ahead, of what is behind -/
theorem two_clears {F : Nat → Prop} {b : Nat} {a : Option Addr} {n c f : Nat} {xs l : List El} {w : World} (h : DK F b a n c f xs l w) {i j : Nat} (hij : i ≤ j) (hj : j ≤ l.length) :
    ∃ W1 W2 ys, (∀ ty, (Builtin.clear_ #[127] ty #[.slice (ca a c f) i (c - f)]).run Tryz.prog w = .ok (.tuple #[]) W1) ∧ (∀ ty, (Builtin.clear_ #[127] ty #[.slice (ca (ca a c f) (c - f) j) (l.length - j) (c - f - j)]).run Tryz.prog W1 = .ok (.tuple #[]) W2) ∧
      W2.heap[b]? = w.heap[b]? ∧ Fr F w W2 ∧ ((a = none ∧ c = 0) ∨ ∃ g, a = some ⟨g, 0, none⟩ ∧ F g ∧ ys.length = c ∧ RowIs W2 g ys) ∧ ∀ k, f + i ≤ k → k < f + j → ys[k]? = xs[k]? := by
  have h1 := h.fit
  have h2 := h.nc
  rcases h.row with ⟨rfl, rfl⟩ | ⟨g, rfl, hF, hx, hr⟩
  · have e1 : i = 0 := by omega
    have e2 : l.length - j = 0 := by omega
    subst e1
    refine ⟨w, w, xs, fun ty => ?_, fun ty => ?_, rfl, Fr.refl _ _, .inl ⟨rfl, rfl⟩, fun _ _ _ => rfl⟩
    · generalize ca none 0 f = d
      cases d <;> simp [Builtin.clear_, run_underlying Tryz.underlying127]
    · rw [e2]
      generalize ca (ca none 0 f) (0 - f) j = d
      cases d <;> simp [Builtin.clear_, run_underlying Tryz.underlying127]
  · obtain ⟨W1, k1, r1, cs1, q1⟩ := clear_run (d := ca (some ⟨g, 0, none⟩) c f) (o := f) (k := i) (dc := c - f) hr (fun _ => by rw [ca_some _ _ _ _ (by omega), Nat.zero_add]) (by omega)
    have l1 : (lay xs f (List.replicate i Z)).length = c := by rw [lay_len (by simp; omega)]; exact hx
    obtain ⟨W2, k2, r2, cs2, q2⟩ := clear_run (d := ca (ca (some ⟨g, 0, none⟩) c f) (c - f) j) (o := f + j) (k := l.length - j) (dc := c - f - j) r1 (fun _ => by rw [ca_some _ _ _ _ (by omega), ca_some _ _ _ _ (by omega), Nat.zero_add]) (by omega)
    have nb := h.ne hr
    refine ⟨W1, W2, _, k1, k2, by rw [q2, row_ne nb, q1, row_ne nb], ?_, .inr ⟨g, rfl, hF, by rw [lay_len (by simp; omega)]; exact l1, r2⟩, fun k hk1 hk2 => ?_⟩
    · rw [q2, q1]
      exact (Fr.row hF _).trans (Fr.row (.inl hF) _)
    · rw [lay_before (by omega) (by omega), lay_behind (by simp; omega) (by simp; omega)]
end Go.Proofs.YtpibeabokedpdaaGreatDoor.DqKeep
end
