/- held, Len, fresh, Of, List. -/
import Derived.Test.YtdmjfmojacnbeaaBase
namespace Go.Proofs.Ytdmjfmojacnbeaa.Held
open Go.RowKit
open Go.Proofs.Ytdmjfmojacnbeaa.Base
set_option linter.unusedVariables false
set_option linter.unusedSimpArgs false
set_option maxRecDepth 100000 in
theorem held_call {F : Nat → Prop} {b : Nat} {a : Option Addr} {n c f : Nat} {xs l : List El} {w : World} (h : DK F b a n c f xs l w) :
    Calls Try.prog 51 #[ptr b] w fun e w' => e = .returned (.slice (ca a c f) l.length (c - f)) ∧ ∃ m, w' = w.drewN m := by
  have c0 : w.cell? ⟨b, 0, none⟩ = some (.slice a n c) := h.cell 0
  have c1 : w.cell? ⟨b, 1, none⟩ = some (.int .i64 (f : Int)) := h.cell 1
  obtain ⟨t, HT⟩ : ∃ t, Hid (t = f + l.length) := ⟨_, hid_of rfl⟩
  have c2 : w.cell? ⟨b, 2, none⟩ = some (.int .i64 (t : Int)) := by rw [HT.out]; exact h.cell 2
  have h1 := h.fit
  have h2 := h.nc
  have hs := cut_any a n c f t (f : Int) (t : Int) rfl rfl (by rw [HT.out]; omega) (by rw [HT.out]; omega)
  have HE := hid_of (show t - f = l.length by rw [HT.out]; omega)
  clear h h1 h2
  go_enter Try.func51, Try.ntmps51
  go_wp2_with fail
  go_quiet (fail)
  go_wp2_with fail
  go_ret
  refine ⟨by rw [HE.out]; rfl, nq, rfl⟩
theorem held_nil (w : World) : Calls Try.prog 51 #[.pointer none] w fun e w' => e = .returned (.slice none 0 0) ∧ w' = w := by
  go_enter Try.func51, Try.ntmps51
  go_wp2
  go_ret
  exact ⟨rfl, rfl⟩
set_option maxRecDepth 100000 in
theorem len_call {F : Nat → Prop} {b : Nat} {l : List El} {w : World} (h : DQ F b l w) :
    Calls Try.prog 12 #[ptr b] w fun e w' => e = .returned (.int .i64 (l.length : Int)) ∧ ∃ m, w' = w.drewN m := by
  obtain ⟨a, n, c, f, xs, h⟩ := h
  have H := hid_of (held_call h)
  clear h
  go_enter Try.func12, Try.ntmps12
  go_wp2_with fail
  refine H.out.mono ?_
  rintro e w1 ⟨rfl, m, rfl⟩
  go_wp2_with fail
  go_ret
  exact ⟨rfl, m, rfl⟩
theorem len_nil (w : World) : Calls Try.prog 12 #[.pointer none] w fun e w' => e = .returned (.int .i64 0) ∧ w' = w := by
  have H := hid_of (held_nil w)
  go_enter Try.func12, Try.ntmps12
  go_wp2_with fail
  refine H.out.mono ?_
  rintro e w1 ⟨rfl, rfl⟩
  go_wp2_with fail
  go_ret
  exact ⟨rfl, rfl⟩
theorem info3 : (Try.prog.info? 3).map (fun i => (i.zero, i.size, i.bytes)) = some (some (V Z), 1, 8) := by kernel_rfl
theorem rd_src {G : Nat → Prop} {w : World} {a : Option Addr} {l : List El} (h : Rd G w a l) (hl : l ≠ []) (c : Nat) : Src Try.prog 1 22 (.slice a l.length c) l.length (l.map V) w := by
  rcases h with rfl | ⟨g, o, rfl, _, hc⟩
  · exact absurd rfl hl
  · refine Src.ofSlice (P := Try.prog) w Try.underlying22 ⟨g, o, none⟩ l.length c (l.map V) (by simp) (fun j u hj => ?_) (fun u hu => by
      obtain ⟨x, _, rfl⟩ := List.mem_map.1 hu
      rfl)
    rw [List.getElem?_map] at hj
    obtain ⟨x, hx, rfl⟩ := Option.map_eq_some_iff.1 hj
    rw [add_off]
    exact hc j x hx
theorem zeros_cells (n : Nat) : Builtin.zeroCells (V Z).cells n = cells (List.replicate n Z) := by
  apply Array.ext'
  rw [show (V Z).cells = #[V Z] from rfl]
  simp [Builtin.zeroCells, cells]
  apply List.ext_getElem
  · simp
  · intro i h1 h2
    simp [Nat.mod_one]
/-- a list appended to nothing -/
theorem app_nil {G : Nat → Prop} {w : World} {a : Option Addr} {l : List El} {c : Nat} (h : Rd G w a l) (hb : l.length * 8 ≤ 140737488355328) (ty : TypeId) :
    ∃ v w', (Builtin.append_ #[22, 22] ty #[.slice none 0 0, .slice a l.length c]).run Try.prog w = .ok v w' ∧ NR w.heap.size w' v l ∧ Below w.heap.size w w' := by
  obtain ⟨i, hi, hz0, hz1, hz2⟩ := info_parts info3
  by_cases hl : l = []
  · subst hl
    refine ⟨.slice none 0 0, w, ?_, .inl ⟨rfl, rfl⟩, Below.refl _ _⟩
    cases a with
    | none => simp [Builtin.append_, run_underlying Try.underlying22, Builtin.lenOf, Builtin.firstCells, sizeOf, typeInfo, hi]
    | some x =>
      have hl := run_loadCells_list (P := Try.prog) w x [] (by simp)
      simp at hl
      simp [Builtin.append_, run_underlying Try.underlying22, Builtin.lenOf, Builtin.firstCells, sizeOf, typeInfo, hi, hz1, hl]
  · have hs : Src Try.prog i.size 22 (.slice a l.length c) l.length (l.map V) w := by rw [hz1]; exact rd_src h hl c
    have hp : 0 < l.length := List.length_pos_iff.2 hl
    have hr := run_append_grow_src (P := Try.prog) w 22 22 ty 3 i (V Z) Try.underlying22 hi hz0 none 0 0 [] (by simp [Builtin.firstCells]) (.slice a l.length c) l.length (l.map V) hs (by omega) (by omega) (growslice_fits (by omega) (by rw [hz2]; omega))
    rw [Nat.zero_add, List.nil_append] at hr
    have hge := grownCap_ge w l.length 0 3
    refine ⟨_, _, hr, .inr ⟨w.heap.size, grownCap w l.length 0 3, l ++ List.replicate (grownCap w l.length 0 3 - l.length) Z, rfl, Nat.le_refl _, ?_, by simp; omega, hge, by simp⟩, (Below.refl _ w).drew.alloc (Nat.le_refl _) _⟩
    unfold RowIs
    rw [show w.heap.size = w.drew.heap.size from rfl, heap_alloc_new w.drew, zeros_cells]
    simp [cells]
section
variable {ops : Array Oper} {rest : List Oper} {o : Oper} {a : Act} {Q : Exit → Act → World → Prop}
theorem wpl_eq (hgd : o.guard = none) (s x : Operand) (t tx : TypeId) (ho : o.op = .call { callee := .builtin .append, args := #[s, x], argTypes := #[t, tx] }) (v u v' : Value) (W W' : World) (hs : a.eval s = v) (hx : a.eval x = u)
    (hr : (Builtin.append_ #[t, tx] o.type #[v, u]).run Try.prog W = .ok v' W') (hK : wpList Try.prog ops Q rest (a.put o.dst v') W') : wpList Try.prog ops Q (o :: rest) a W := by
  refine wpList_plain hgd fun K hK2 => ?_
  unfold Oper.wp execOp
  simp only [ho, resolve, invoke, builtin, Sem.run_bind, Sem.run_pure, Result.andThen_ok, List.map_toArray, List.map_cons, List.map_nil, hs, hx, hr]
  exact hK2 _ _ hK
end
set_option maxRecDepth 100000 in
theorem fresh_call {G : Nat → Prop} {w : World} {v : Value} {l : List El} (h : SL G w v l) (hb : l.length * 8 ≤ 140737488355328) :
    Calls Try.prog 47 #[v] w fun e w' => ∃ v', e = .returned v' ∧ NR w.heap.size w' v' l ∧ Below w.heap.size w w' := by
  obtain ⟨a, c, rfl, hc, hr⟩ := h
  obtain ⟨v', w', hrun, hn, hbl⟩ := app_nil (c := c) hr hb 22
  have H := hid_of (And.intro hn hbl)
  clear hn hbl hr hb hc
  go_enter Try.func47, Try.ntmps47
  go_wp2_with (at_builtin; refine wpl_eq rfl _ _ 22 22 rfl (.slice none 0 0) (.slice a l.length c) v' _ w' rfl rfl hrun ?_)
  go_ret
  exact ⟨v', rfl, H.out⟩
end Go.Proofs.Ytdmjfmojacnbeaa.Held
