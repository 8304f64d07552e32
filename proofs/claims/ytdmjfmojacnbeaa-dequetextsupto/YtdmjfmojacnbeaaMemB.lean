/- held, Len, fresh, Of, List. lay, free, Of, List. One element appended to a new row. free, Of, List, PushBack, PushFront. Same, Joined, Turned. -/
import Derived.Test.YtdmjfmojacnbeaaMemA
section
namespace Go.Proofs.Ytdmjfmojacnbeaa.Held
open Go.RowKit
open Go.Proofs.Ytdmjfmojacnbeaa.Base
set_option linter.unusedVariables false
set_option linter.unusedSimpArgs false
set_option maxRecDepth 100000 in
theorem held_call {F : Nat → Prop} {b : Nat} {a : Option Addr} {n c f : Nat} {xs l : List El} {w : World} (h : DK F b a n c f xs l w) :
    Calls Try.prog 51 #[ptr b] w fun e w' => e = .returned (.slice (ca a c f) l.length (c - f)) ∧ ∃ m, w' = w.drewN m := by
  have c0 : w.cell? ⟨b, 0, none⟩ = some (.slice a n c) := h.cell 0
  have c1 : w.cell? ⟨b, 1, none⟩ = some (.int .i64 (f : Int)) := h.cell 1
  obtain ⟨t, HT⟩ : ∃ t, Hid (t = f + l.length) := ⟨_, hid_of rfl⟩
  have c2 : w.cell? ⟨b, 2, none⟩ = some (.int .i64 (t : Int)) := by rw [HT.out]; exact h.cell 2
  have h1 := h.fit
  have h2 := h.nc
  have hs := cut_any a n c f t (f : Int) (t : Int) rfl rfl (by rw [HT.out]; omega) (by rw [HT.out]; omega)
  have HE := hid_of (show t - f = l.length by rw [HT.out]; omega)
  clear h h1 h2
  go_enter Try.func51, Try.ntmps51
  go_wp2_with fail
  go_quiet (fail)
  go_wp2_with fail
  go_ret
  refine ⟨by rw [HE.out]; rfl, nq, rfl⟩
theorem held_nil (w : World) : Calls Try.prog 51 #[.pointer none] w fun e w' => e = .returned (.slice none 0 0) ∧ w' = w := by
  go_enter Try.func51, Try.ntmps51
  go_wp2
  go_ret
  exact ⟨rfl, rfl⟩
set_option maxRecDepth 100000 in
theorem len_call {F : Nat → Prop} {b : Nat} {l : List El} {w : World} (h : DQ F b l w) :
    Calls Try.prog 12 #[ptr b] w fun e w' => e = .returned (.int .i64 (l.length : Int)) ∧ ∃ m, w' = w.drewN m := by
  obtain ⟨a, n, c, f, xs, h⟩ := h
  have H := hid_of (held_call h)
  clear h
  go_enter Try.func12, Try.ntmps12
  go_wp2_with fail
  refine H.out.mono ?_
  rintro e w1 ⟨rfl, m, rfl⟩
  go_wp2_with fail
  go_ret
  exact ⟨rfl, m, rfl⟩
theorem len_nil (w : World) : Calls Try.prog 12 #[.pointer none] w fun e w' => e = .returned (.int .i64 0) ∧ w' = w := by
  have H := hid_of (held_nil w)
  go_enter Try.func12, Try.ntmps12
  go_wp2_with fail
  refine H.out.mono ?_
  rintro e w1 ⟨rfl, rfl⟩
  go_wp2_with fail
  go_ret
  exact ⟨rfl, rfl⟩
theorem info3 : (Try.prog.info? 3).map (fun i => (i.zero, i.size, i.bytes)) = some (some (V Z), 1, 8) := by kernel_rfl
theorem rd_src {G : Nat → Prop} {w : World} {a : Option Addr} {l : List El} (h : Rd G w a l) (hl : l ≠ []) (c : Nat) : Src Try.prog 1 22 (.slice a l.length c) l.length (l.map V) w := by
  rcases h with rfl | ⟨g, o, rfl, _, hc⟩
  · exact absurd rfl hl
  · refine Src.ofSlice (P := Try.prog) w Try.underlying22 ⟨g, o, none⟩ l.length c (l.map V) (by simp) (fun j u hj => ?_) (fun u hu => by
      obtain ⟨x, _, rfl⟩ := List.mem_map.1 hu
      rfl)
    rw [List.getElem?_map] at hj
    obtain ⟨x, hx, rfl⟩ := Option.map_eq_some_iff.1 hj
    rw [add_off]
    exact hc j x hx
theorem zeros_cells (n : Nat) : Builtin.zeroCells (V Z).cells n = cells (List.replicate n Z) := by
  apply Array.ext'
  rw [show (V Z).cells = #[V Z] from rfl]
  simp [Builtin.zeroCells, cells]
  apply List.ext_getElem
  · simp
  · intro i h1 h2
    simp [Nat.mod_one]
/-- a list appended to nothing -/
theorem app_nil {G : Nat → Prop} {w : World} {a : Option Addr} {l : List El} {c : Nat} (h : Rd G w a l) (hb : l.length * 8 ≤ 140737488355328) (ty : TypeId) :
    ∃ v w', (Builtin.append_ #[22, 22] ty #[.slice none 0 0, .slice a l.length c]).run Try.prog w = .ok v w' ∧ NR w.heap.size w' v l ∧ Below w.heap.size w w' := by
  obtain ⟨i, hi, hz0, hz1, hz2⟩ := info_parts info3
  by_cases hl : l = []
  · subst hl
    refine ⟨.slice none 0 0, w, ?_, .inl ⟨rfl, rfl⟩, Below.refl _ _⟩
    cases a with
    | none => simp [Builtin.append_, run_underlying Try.underlying22, Builtin.lenOf, Builtin.firstCells, sizeOf, typeInfo, hi]
    | some x =>
      have hl := run_loadCells_list (P := Try.prog) w x [] (by simp)
      simp at hl
      simp [Builtin.append_, run_underlying Try.underlying22, Builtin.lenOf, Builtin.firstCells, sizeOf, typeInfo, hi, hz1, hl]
  · have hs : Src Try.prog i.size 22 (.slice a l.length c) l.length (l.map V) w := by rw [hz1]; exact rd_src h hl c
    have hp : 0 < l.length := List.length_pos_iff.2 hl
    have hr := run_append_grow_src (P := Try.prog) w 22 22 ty 3 i (V Z) Try.underlying22 hi hz0 none 0 0 [] (by simp [Builtin.firstCells]) (.slice a l.length c) l.length (l.map V) hs (by omega) (by omega) (growslice_fits (by omega) (by rw [hz2]; omega))
    rw [Nat.zero_add, List.nil_append] at hr
    have hge := grownCap_ge w l.length 0 3
    refine ⟨_, _, hr, .inr ⟨w.heap.size, grownCap w l.length 0 3, l ++ List.replicate (grownCap w l.length 0 3 - l.length) Z, rfl, Nat.le_refl _, ?_, by simp; omega, hge, by simp⟩, (Below.refl _ w).drew.alloc (Nat.le_refl _) _⟩
    unfold RowIs
    rw [show w.heap.size = w.drew.heap.size from rfl, heap_alloc_new w.drew, zeros_cells]
    simp [cells]
section
variable {ops : Array Oper} {rest : List Oper} {o : Oper} {a : Act} {Q : Exit → Act → World → Prop}
theorem wpl_eq (hgd : o.guard = none) (s x : Operand) (t tx : TypeId) (ho : o.op = .call { callee := .builtin .append, args := #[s, x], argTypes := #[t, tx] }) (v u v' : Value) (W W' : World) (hs : a.eval s = v) (hx : a.eval x = u)
    (hr : (Builtin.append_ #[t, tx] o.type #[v, u]).run Try.prog W = .ok v' W') (hK : wpList Try.prog ops Q rest (a.put o.dst v') W') : wpList Try.prog ops Q (o :: rest) a W := by
  refine wpList_plain hgd fun K hK2 => ?_
  unfold Oper.wp execOp
  simp only [ho, resolve, invoke, builtin, Sem.run_bind, Sem.run_pure, Result.andThen_ok, List.map_toArray, List.map_cons, List.map_nil, hs, hx, hr]
  exact hK2 _ _ hK
end
set_option maxRecDepth 100000 in
theorem fresh_call {G : Nat → Prop} {w : World} {v : Value} {l : List El} (h : SL G w v l) (hb : l.length * 8 ≤ 140737488355328) :
    Calls Try.prog 47 #[v] w fun e w' => ∃ v', e = .returned v' ∧ NR w.heap.size w' v' l ∧ Below w.heap.size w w' := by
  obtain ⟨a, c, rfl, hc, hr⟩ := h
  obtain ⟨v', w', hrun, hn, hbl⟩ := app_nil (c := c) hr hb 22
  have H := hid_of (And.intro hn hbl)
  clear hn hbl hr hb hc
  go_enter Try.func47, Try.ntmps47
  go_wp2_with (at_builtin; refine wpl_eq rfl _ _ 22 22 rfl (.slice none 0 0) (.slice a l.length c) v' _ w' rfl rfl hrun ?_)
  go_ret
  exact ⟨v', rfl, H.out⟩
end Go.Proofs.Ytdmjfmojacnbeaa.Held
end
section
namespace Go.Proofs.Ytdmjfmojacnbeaa.Lay
open Go.RowKit
open Go.Proofs.Ytdmjfmojacnbeaa.Base
open Go.Proofs.Ytdmjfmojacnbeaa.Held
set_option linter.unusedVariables false
set_option linter.unusedSimpArgs false
theorem made_row (n : Nat) : (madeCells #[V Z] n).toList = (List.replicate n Z).map V := by
  rw [toList_madeCells_one]
  simp
theorem row_of_own {w : World} {base g n : Nat} (h : w.ownsRow base 3 1 (.slice (some ⟨g, 0, none⟩) n n) n (madeCells #[V Z] n).toList) : RowIs w g (List.replicate n Z) := by
  rw [made_row] at h
  rcases h.2 with ⟨e, _⟩ | ⟨g', cap, cur, e, hb, hg, h1, h2, h3, h4⟩
  · cases e
  · simp only [Value.slice.injEq, Option.some.injEq, Addr.mk.injEq] at e
    obtain ⟨⟨rfl, -⟩, -, rfl⟩ := e
    unfold RowIs
    rw [hg, show cur = cells (List.replicate n Z) from by
      apply Array.ext'
      rw [← List.take_of_length_le (l := cur.toList) (i := n * 1) (by simp; omega), h4]
      simp [cells]]
theorem size_some : (Try.prog.info? 3).map (·.size) = some 1 := by kernel_rfl
/-- copy: what is read first is laid -/
theorem copy_run {G : Nat → Prop} {w : World} {g : Nat} {xs : List El} (hr : RowIs w g xs) {d : Option Addr} {o dn dc : Nat} {sa : Option Addr} {s : List El} {sc : Nat} (hs : Rd G w sa s) (hd : 0 < (s.take dn).length → d = some ⟨g, o, none⟩) (ho : o + (s.take dn).length ≤ xs.length) :
    ∃ w', (∀ ty, (Builtin.copy_ #[22, 22] ty #[.slice d dn dc, .slice sa s.length sc]).run Try.prog w = .ok (goInt (s.take dn).length) w') ∧ RowIs w' g (lay xs o (s.take dn)) ∧ ∃ cs, w' = w.setRow g cs := by
  by_cases q : (s.take dn) = []
  · have h0 : Nat.min s.length dn = 0 := by
      have := congrArg List.length q
      simp at this
      rcases this with h | h
      · subst h; simp
      · subst h; simp
    refine ⟨w, fun ty => ?_, by rw [q, lay_nil]; exact hr, cells xs, (setRow_self w g _ 3 (0, 0) hr).symm⟩
    rw [q]
    exact run_copy_none w 22 22 ty 3 d sa dn dc s.length sc Try.underlying22 size_some h0
  · have hp : 0 < (s.take dn).length := List.length_pos_iff.2 q
    rw [hd hp]
    rcases hs with rfl | ⟨g', o', rfl, _, hc⟩
    · simp at hp
    · refine ⟨_, fun ty => ?_, hr.lay o (s.take dn), _, rfl⟩
      have := run_copy_row Try.prog w 22 22 ty 3 g o dn dc ⟨g', o', none⟩ s.length sc (cells xs) 3 ((s.take dn).map V) Try.underlying22 size_some hr (by rw [List.length_map, List.length_take]; exact Nat.min_comm _ _) (fun j v hj => by
        rw [List.getElem?_map, List.getElem?_take] at hj
        rw [add_off]
        split at hj
        · obtain ⟨x, hx, rfl⟩ := Option.map_eq_some_iff.1 hj
          exact hc j x hx
        · cases hj) (by rw [List.length_map, cells_size]; exact ho) (fun v hv => by
        obtain ⟨x, _, rfl⟩ := List.mem_map.1 hv
        rfl)
      rw [this, List.length_map]
theorem lay_is (s n : Nat) (l : List El) (h : s + l.length ≤ n) : ((lay (List.replicate n Z) s l).drop s).take l.length = l := by
  unfold lay
  rw [List.append_assoc, List.drop_append_of_le_length (by simp; omega)]
  have : ((List.replicate n Z).take s).drop s = [] := by simp; omega
  rw [this]
  simp
set_option maxHeartbeats 1000000 in
set_option maxRecDepth 100000 in
theorem lay_call {F : Nat → Prop} {b : Nat} {l : List El} {w : World} (h : DQ F b l w) (s : Nat) (hs : (2 * s + l.length) * 8 ≤ 281474976710656) :
    Calls Try.prog 78 #[ptr b, .int .i64 (s : Int)] w fun e w' => e = .returned (.tuple #[]) ∧ (∃ a c xs, DK (Gr F w) b a (2 * s + l.length) c s xs l w') ∧ Fr F w w' := by
  obtain ⟨a, n, c, f, xs, h⟩ := h
  have H := hid_of (held_call h)
  obtain ⟨i0, hi, hz0, hz1, hz2⟩ := info_parts info3
  obtain ⟨t, HT⟩ : ∃ t, Hid (t = s + l.length) := ⟨_, hid_of rfl⟩
  obtain ⟨N, HN⟩ : ∃ N, Hid (N = 2 * s + l.length) := ⟨_, hid_of rfl⟩
  rw [← HN.out] at hs ⊢
  have e1 : (s : Int) + (l.length : Int) = (t : Int) := by rw [HT.out]; simp
  have e2 : (t : Int) + (s : Int) = (N : Int) := by rw [HT.out, HN.out]; simp; omega
  have hsN : s ≤ N := by rw [HN.out]; omega
  have hb := lt_of h.blk
  have HD := hid_of h
  clear h
  go_enter Try.func78, Try.ntmps78
  go_wp2_with fail
  refine H.out.mono ?_
  rintro e w1 ⟨rfl, m1, rfl⟩
  have b1 : s ≤ 281474976710656 := by omega
  have b2 : l.length ≤ 281474976710656 := by have := HN.out; omega
  have b3 : t ≤ 281474976710656 := by have := HN.out; have := HT.out; omega
  go_wp2_with (at_make; refine wpList_make_full _ rfl _ _ 22 rfl w.heap.size 3 i0 (V Z) 1 Try.underlying22 hi hz0 hz1 _ _ _ _ N rfl rfl (by first | rfl | exact e2) (by first | rfl | exact e2) ?b2 ?b3 (Nat.le_refl _) ?_)
  case b2 => rw [hz2]; omega
  case b3 => unfold maxLen; omega
  intro w0 hown0 hgrow0
  have hb0 : Below w.heap.size w w0 := (bel_drewN w m1).trans ((Below.refl _ _).grown hgrow0 (Nat.le_refl _) (fun k h => by cases h))
  have hr0 : RowIs w0 w.heap.size (List.replicate N Z) := row_of_own hown0
  have hcut := cut_lo (some ⟨w.heap.size, 0, none⟩) N N s (s : Int) rfl hsN
  have hsrc : Rd F w0 (ca a c f) l := HD.out.rd.keep fun k hk _ => hb0.block k hk
  have htk : l.take (N - s) = l := List.take_of_length_le (by rw [HN.out]; omega)
  obtain ⟨w2, hcp, hr2, cs, hw2⟩ := copy_run (d := ca (some ⟨w.heap.size, 0, none⟩) N s) (o := s) (dn := N - s) (dc := N - s) (sc := c - f) hr0 hsrc (fun hp => by
    rw [htk] at hp
    rw [ca_some _ _ _ _ (by rw [HN.out]; omega), Nat.zero_add]) (by rw [htk, List.length_replicate, HN.out]; omega)
  rw [htk] at hr2
  have hb2 : w2.heap[b]? = w.heap[b]? := by
    rw [hw2, row_ne (by omega)]
    exact hb0.block b hb
  have c0 : w2.heap[b]? = _ := hb2.trans HD.out.blk
  have k0 : w2.cell? ⟨b, 0, none⟩ = _ := Lib.cell_of_heap c0 0
  have k1 : w2.cell? ⟨b, 1, none⟩ = _ := Lib.cell_of_heap c0 1
  have k2 : w2.cell? ⟨b, 2, none⟩ = _ := Lib.cell_of_heap c0 2
  have z0 : w2.frozen? ⟨b, 0, none⟩ = false := Lib.frozen_of_heap c0 0
  have z1 : w2.frozen? ⟨b, 1, none⟩ = false := Lib.frozen_of_heap c0 1
  have z2 : w2.frozen? ⟨b, 2, none⟩ = false := Lib.frozen_of_heap c0 2
  have hbb : w.heap.size ≠ b := by omega
  have HR := hid_of (And.intro hr2 (And.intro c0 (And.intro hb0 hw2)))
  clear hr0 hsrc hr2 hw2 hb0 hown0 hgrow0 hb2 c0
  go_wp2_with (simp only [hcp])
  go_end0
  refine ⟨rfl, ?_, ?_⟩
  · obtain ⟨r1, r2, r3, r4⟩ := HR.out
    have hlay : (lay (List.replicate N Z) s l).length = N := by rw [lay_len (by rw [List.length_replicate, HN.out]; omega), List.length_replicate]
    refine ⟨_, _, _, ⟨?_, .inl HD.out.own, by rw [HN.out]; omega, Nat.le_refl _, by omega, .inr ⟨w.heap.size, rfl, .inr (Nat.le_refl _), hlay, ?_⟩, lay_is s N l (by rw [HN.out]; omega)⟩⟩
    · rw [set_at (set_at (set_at r2 _) _) _, ← HT.out]
      simp
    · unfold RowIs
      rw [set_ne hbb, set_ne hbb, set_ne hbb]
      exact r1
  · obtain ⟨r1, r2, r3, r4⟩ := HR.out
    have f1 : Fr F w w2 := by
      rw [r4]
      exact (Fr.of_below r3).trans (Fr.row (.inr (Nat.le_refl _)) _)
    exact ((f1.trans (Fr.set (.inl HD.out.own) _)).trans (Fr.set (.inl HD.out.own) _)).trans (Fr.set (.inl HD.out.own) _)
end Go.Proofs.Ytdmjfmojacnbeaa.Lay
end
section
namespace Go.Proofs.Ytdmjfmojacnbeaa.App
open Go.RowKit
open Go.Proofs.Ytdmjfmojacnbeaa.Base
open Go.Proofs.Ytdmjfmojacnbeaa.Held
open Go.Proofs.Ytdmjfmojacnbeaa.Lay
set_option linter.unusedVariables false
set_option linter.unusedSimpArgs false
theorem take_lay {xs l : List El} {c : Nat} (h : xs.take l.length = l) (m : List El) (hx : l.length + m.length ≤ xs.length) : (lay xs l.length m).take (l ++ m).length = l ++ m := by
  unfold lay
  rw [h, List.take_left']
  rfl
/-- a list appended to a new row -/
theorem app_any {G : Nat → Prop} {B : Nat} {w : World} {v : Value} {l m : List El} {a : Option Addr} {c : Nat} (h : NR B w v l) (hm : Rd G w a m) (hb : (l.length + m.length) * 8 ≤ 140737488355328) (hB : B ≤ w.heap.size) (ty : TypeId) :
    ∃ v' w', (Builtin.append_ #[22, 22] ty #[v, .slice a m.length c]).run Try.prog w = .ok v' w' ∧ NR B w' v' (l ++ m) ∧ Below B w w' := by
  obtain ⟨i, hi, hz0, hz1, hz2⟩ := info_parts info3
  by_cases hl : m = []
  · subst hl
    refine ⟨v, w, ?_, by simpa using h, Below.refl _ _⟩
    have hld : ∀ x, (loadCells x 0).run Try.prog w = .ok #[] w := fun x => by simpa using run_loadCells_list (P := Try.prog) w x [] (by simp)
    rcases h with ⟨rfl, rfl⟩ | ⟨g, cp, xs, rfl, hBg, hr, hx, hlc, ht⟩
    · cases a <;> simp [Builtin.append_, run_underlying Try.underlying22, Builtin.lenOf, Builtin.firstCells, sizeOf, typeInfo, hi, hz1, hld]
    · cases a <;> simp [Builtin.append_, run_underlying Try.underlying22, Builtin.lenOf, Builtin.firstCells, sizeOf, typeInfo, hi, hz1, hld, hlc, storeCells]
  · have hp : 0 < m.length := List.length_pos_iff.2 hl
    have hs : Src Try.prog i.size 22 (.slice a m.length c) m.length (m.map V) w := by rw [hz1]; exact rd_src hm hl c
    by_cases hroom : ∃ g cp xs, v = .slice (some ⟨g, 0, none⟩) l.length cp ∧ B ≤ g ∧ RowIs w g xs ∧ xs.length = cp ∧ xs.take l.length = l ∧ l.length + m.length ≤ cp
    · obtain ⟨g, cp, xs, rfl, hBg, hr, hx, ht, hrm⟩ := hroom
      have hst := run_storeCells_at Try.prog g l.length 3 (m.map V) 0 (cells xs) w hr (by rw [List.length_map, cells_size]; omega) (fun v hv => by
        obtain ⟨x, _, rfl⟩ := List.mem_map.1 hv
        rfl)
      simp only [Nat.add_zero] at hst
      have hcl := hs.cells
      rw [hz1] at hcl
      refine ⟨.slice (some ⟨g, 0, none⟩) (l.length + m.length) cp, _, ?_, .inr ⟨g, cp, _, by rw [List.length_append], hBg, hr.lay l.length m, by rw [lay_len (by omega)]; exact hx, by rw [List.length_append]; exact hrm, take_lay (c := cp) ht m (by omega)⟩, ?_⟩
      · simp [Builtin.append_, run_underlying Try.underlying22, Builtin.lenOf, sizeOf, typeInfo, hi, hz1, hrm, hcl, Addr.add_lit]
        simp at hst
        rw [hst]
        simp
      · exact (Fr.row (F := fun k => k = g) rfl _).below (Nat.le_trans hB (Nat.le_refl _)) fun k e => by rw [e]; exact hBg
    · have hg : ∃ ba cp, v = .slice ba l.length cp ∧ l.length ≤ cp ∧ cp < l.length + m.length ∧ (Builtin.firstCells i.size l.length (.slice ba l.length cp)).run Try.prog w.drew = .ok (l.map V).toArray w.drew := by
        rcases h with ⟨rfl, rfl⟩ | ⟨g, cp, xs, rfl, hBg, hr, hx, hlc, ht⟩
        · exact ⟨none, 0, rfl, Nat.le_refl _, by simpa using hp, by simp [Builtin.firstCells]⟩
        · refine ⟨_, cp, rfl, hlc, ?_, ?_⟩
          · rcases Nat.lt_or_ge cp (l.length + m.length) with q | q
            · exact q
            · exact absurd ⟨g, cp, xs, rfl, hBg, hr, hx, ht, q⟩ hroom
          · refine run_firstCells_some (P := Try.prog) w.drew i.size l.length ⟨g, 0, none⟩ l.length cp (l.map V) (by simp [hz1]) ?_
            intro j y hj
            rw [List.getElem?_map] at hj
            obtain ⟨x, hx1, rfl⟩ := Option.map_eq_some_iff.1 hj
            rw [add_off, Nat.zero_add]
            show w.cell? ⟨g, j, none⟩ = _
            rw [hr.cell]
            rw [← ht, List.getElem?_take] at hx1
            split at hx1
            · rw [hx1]; rfl
            · cases hx1
      obtain ⟨ba, cp, rfl, hlc, hlt, hold⟩ := hg
      have hr := run_append_grow_src (P := Try.prog) w 22 22 ty 3 i (V Z) Try.underlying22 hi hz0 ba l.length cp (l.map V) hold (.slice a m.length c) m.length (m.map V) hs hlt (by omega) (growslice_fits hlt (by rw [hz2]; exact hb))
      have hge := grownCap_ge w (l.length + m.length) cp 3
      refine ⟨_, _, hr, .inr ⟨w.heap.size, grownCap w (l.length + m.length) cp 3, (l ++ m) ++ List.replicate (grownCap w (l.length + m.length) cp 3 - (l.length + m.length)) Z, by rw [List.length_append], hB, ?_, by simp; omega, by rw [List.length_append]; exact hge, List.take_left' rfl⟩, (Below.refl _ w).drew.alloc hB _⟩
      unfold RowIs
      rw [show w.heap.size = w.drew.heap.size from rfl, heap_alloc_new w.drew, zeros_cells]
      simp [cells]
/-- append(l, x) -/
theorem app_one {B : Nat} {w : World} {v : Value} {l : List El} (x : El) (h : NR B w v l) (hb : (l.length + 1) * 8 ≤ 140737488355328) (hB : B ≤ w.heap.size) (ty : TypeId) :
    ∃ v' w', (Builtin.append_ #[22, 22] ty #[v, .slice (some ⟨w.heap.size, 0, none⟩) 1 1]).run Try.prog (w.alloc (.cells #[V x] 3)) = .ok v' w' ∧ NR B w' v' (l ++ [x]) ∧ Below B w w' := by
  have b1 := (Below.refl w.heap.size w).alloc (Nat.le_refl _) (.cells #[V x] 3)
  have hm : Rd (fun _ => True) (w.alloc (.cells #[V x] 3)) (some ⟨w.heap.size, 0, none⟩) [x] := by
    refine .inr ⟨w.heap.size, 0, rfl, trivial, fun j y hj => ?_⟩
    rw [Lib.cell_of_heap (heap_alloc_new w _)]
    cases j with
    | zero => simp at hj; subst hj; rfl
    | succ j => simp at hj
  obtain ⟨v', w', h1, h2, h3⟩ := app_any (c := 1) (h.below b1) hm (by simpa using hb) (Nat.le_trans hB b1.size) ty
  exact ⟨v', w', h1, h2, (b1.mono hB).trans h3⟩
end Go.Proofs.Ytdmjfmojacnbeaa.App
end
section
namespace Go.Proofs.Ytdmjfmojacnbeaa.Free
open Go.RowKit
open Go.Proofs.Ytdmjfmojacnbeaa.Base
open Go.Proofs.Ytdmjfmojacnbeaa.Held
open Go.Proofs.Ytdmjfmojacnbeaa.Lay
set_option linter.unusedVariables false
set_option linter.unusedSimpArgs false
theorem DK.up {F : Nat → Prop} {b : Nat} {a : Option Addr} {n c f : Nat} {xs l : List El} {w : World} (h : DK F b a n c f xs l w) (w0 : World) : DK (Gr F w0) b a n c f xs l w := h.mono fun _ _ e => .inl e
theorem DK.drewN {F : Nat → Prop} {b : Nat} {a : Option Addr} {n c f : Nat} {xs l : List El} {w : World} (h : DK F b a n c f xs l w) (m : Nat) : DK F b a n c f xs l (w.drewN m) := h.keep fun _ _ _ => rfl
set_option maxHeartbeats 1000000 in
set_option maxRecDepth 100000 in
theorem free_call {F : Nat → Prop} {b : Nat} {l : List El} {w : World} (h : DQ F b l w) (x y : Nat) (X Y : Int) (hX : X = x) (hY : Y = y) (hs : (2 * (x + l.length + y) + l.length) * 8 ≤ 281474976710656) :
    Calls Try.prog 66 #[ptr b, .int .i64 X, .int .i64 Y] w fun e w' => e = .returned (.tuple #[]) ∧ (∃ a n c f xs, DK (Gr F w) b a n c f xs l w' ∧ x ≤ f ∧ f + l.length + y ≤ n) ∧ Fr F w w' := by
  have HQ := hid_of h
  have HL := hid_of (fun m => lay_call (h.drewN m) (x + l.length + y) hs)
  have HN := hid_of (fun m => len_call (h.drewN m))
  obtain ⟨a, n, c, f, xs, h⟩ := h
  have c0 : w.cell? ⟨b, 0, none⟩ = some (.slice a n c) := h.cell 0
  have c1 : w.cell? ⟨b, 1, none⟩ = some (.int .i64 (f : Int)) := h.cell 1
  obtain ⟨t, HT⟩ : ∃ t, Hid (t = f + l.length) := ⟨_, hid_of rfl⟩
  have c2 : w.cell? ⟨b, 2, none⟩ = some (.int .i64 (t : Int)) := by rw [HT.out]; exact h.cell 2
  have h1 : t ≤ n := by rw [HT.out]; exact h.fit
  have h2 := h.lim
  have b1 : x ≤ 281474976710656 := by omega
  have b2 : y ≤ 281474976710656 := by omega
  have b3 : l.length ≤ 281474976710656 := by omega
  obtain ⟨S, HS⟩ : ∃ S, Hid (S = x + l.length + y) := ⟨_, hid_of rfl⟩
  rw [← HS.out] at HL
  have eS : X + (l.length : Int) + Y = (S : Int) := by rw [HS.out, hX, hY]; simp
  have HX := hid_of (And.intro hX hY)
  have bX : 0 ≤ X ∧ X ≤ 281474976710656 := by omega
  have bY : 0 ≤ Y ∧ Y ≤ 281474976710656 := by omega
  obtain ⟨bX1, bX2⟩ := bX
  obtain ⟨bY1, bY2⟩ := bY
  have HD := hid_of h
  have w2 : IntKind.i64.wrap ((n : Int) - (t : Int)) = (n : Int) - (t : Int) := IntWalk.i64_in _ (by omega)
  have w3 : IntKind.i64.wrap (X + (l.length : Int)) = X + (l.length : Int) := IntWalk.i64_in _ (by omega)
  clear h hX hY hs
  by_cases g1 : (f : Int) < X
  · have d1 : decide ((f : Int) < X) = true := by simpa using g1
    go_enter Try.func66, Try.ntmps66
    go_wp2_with fail
    go_quiet (fail)
    go_wp2_with fail
    refine (HN.out _).mono ?_
    rintro e w1 ⟨rfl, m, rfl⟩
    go_wp2_with fail
    refine (HL.out (nq + m)).mono ?_
    rintro e w1 ⟨rfl, ⟨a', c', xs', k⟩, fr⟩
    have K := hid_of (And.intro k fr)
    clear k fr
    go_wp2_with fail
    go_end0
    exact ⟨rfl, ⟨a', _, c', _, xs', K.out.1, by rw [HS.out]; omega, by rw [HS.out]; omega⟩, ⟨K.out.2.os, K.out.2.tape, K.out.2.output, K.out.2.size, K.out.2.block⟩⟩
  · have d1 : decide ((f : Int) < X) = false := by simpa using g1
    by_cases g2 : (n : Int) - (t : Int) < Y
    · have d2 : decide ((n : Int) - (t : Int) < Y) = true := by simpa using g2
      go_enter Try.func66, Try.ntmps66
      go_wp2_with fail
      go_quiet (fail)
      go_wp2_with fail
      refine (HN.out _).mono ?_
      rintro e w1 ⟨rfl, m, rfl⟩
      go_wp2_with fail
      refine (HL.out (nq + m)).mono ?_
      rintro e w1 ⟨rfl, ⟨a', c', xs', k⟩, fr⟩
      have K := hid_of (And.intro k fr)
      clear k fr
      go_wp2_with fail
      go_end0
      exact ⟨rfl, ⟨a', _, c', _, xs', K.out.1, by rw [HS.out]; omega, by rw [HS.out]; omega⟩, ⟨K.out.2.os, K.out.2.tape, K.out.2.output, K.out.2.size, K.out.2.block⟩⟩
    · have d2 : decide ((n : Int) - (t : Int) < Y) = false := by simpa using g2
      go_enter Try.func66, Try.ntmps66
      go_wp2_with fail
      go_quiet (fail)
      go_wp2_with fail
      go_end0
      have hx := HX.out
      have ht := HT.out
      exact ⟨rfl, ⟨a, n, c, f, xs, DK.up (DK.drewN HD.out nq) w, by omega, by omega⟩, (Fr.refl _ _).drewN _⟩
set_option maxRecDepth 100000 in
theorem list_call {F : Nat → Prop} {b : Nat} {l : List El} {w : World} (h : DQ F b l w) (hb : l.length * 8 ≤ 140737488355328) :
    Calls Try.prog 14 #[ptr b] w fun e w' => ∃ v, e = .returned v ∧ NR w.heap.size w' v l ∧ Below w.heap.size w w' := by
  obtain ⟨a, n, c, f, xs, h⟩ := h
  have H := hid_of (held_call h)
  have HF := hid_of (fun m => fresh_call (w := w.drewN m) (G := F) (v := .slice (ca a c f) l.length (c - f)) ⟨_, _, rfl, by have := h.fit; have := h.nc; omega, (DK.drewN h m).rd⟩ hb)
  clear h hb
  go_enter Try.func14, Try.ntmps14
  go_wp2_with fail
  refine H.out.mono ?_
  rintro e w1 ⟨rfl, m, rfl⟩
  go_wp2_with fail
  refine (HF.out m).mono ?_
  rintro e w1 ⟨v, rfl, hn, hbl⟩
  have K := hid_of (And.intro hn hbl)
  clear hn hbl
  go_wp2_with fail
  go_ret
  exact ⟨v, rfl, K.out.1, (bel_drewN w m).trans K.out.2⟩
theorem NR.shape {B : Nat} {w : World} {v : Value} {l : List El} (h : NR B w v l) : ∃ a c, v = .slice a l.length c ∧ l.length ≤ c ∧ ((a = none ∧ c = 0) ∨ ∃ g xs, a = some ⟨g, 0, none⟩ ∧ B ≤ g ∧ xs.length = c ∧ RowIs w g xs ∧ xs.take l.length = l) := by
  rcases h with ⟨rfl, rfl⟩ | ⟨g, c, xs, rfl, hB, hr, hx, hl, ht⟩
  · exact ⟨none, 0, rfl, Nat.le_refl _, .inl ⟨rfl, rfl⟩⟩
  · exact ⟨_, c, rfl, hl, .inr ⟨g, xs, rfl, hB, hx, hr, ht⟩⟩
set_option maxRecDepth 100000 in
theorem of_call {G : Nat → Prop} {w : World} {v : Value} {l : List El} (h : SL G w v l) (hb : l.length * 8 ≤ 140737488355328) :
    Calls Try.prog 9 #[v] w fun e w' => ∃ b, e = .returned (ptr b) ∧ DQ (fun k => w.heap.size ≤ k) b l w' ∧ Below w.heap.size w w' := by
  have HF := hid_of (fresh_call h hb)
  obtain ⟨a, c, rfl, hc, hr⟩ := h
  have HB := hid_of hb
  clear hr hc hb
  go_enter Try.func9, Try.ntmps9
  go_wp2_with fail
  refine HF.out.mono ?_
  rintro e w1 ⟨v, rfl, hn, hbl⟩
  obtain ⟨a', c', rfl, hc', hr'⟩ := NR.shape hn
  have K := hid_of (And.intro hr' (And.intro hbl hc'))
  clear hn hbl hr' hc'
  go_wp2_with fail
  go_ret
  obtain ⟨k1, k2, k3⟩ := K.out
  have b2 := (Below.refl w1.heap.size w1).alloc (Nat.le_refl _) (.cells #[.slice a' l.length c', .int .i64 0, .int .i64 (l.length : Int)] 72)
  refine ⟨w1.heap.size, rfl, ?_, k2.trans (b2.mono k2.size)⟩
  rcases k1 with ⟨rfl, rfl⟩ | ⟨g, xs, rfl, hB, hx, hr, ht⟩
  · refine ⟨none, l.length, 0, 0, [], ⟨?_, k2.size, by omega, k3, by have := HB.out; omega, .inl ⟨rfl, rfl⟩, ?_⟩⟩
    · rw [heap_alloc_new]; simp
    · have : l = [] := by cases l with
        | nil => rfl
        | cons a r => simp at k3
      subst this; rfl
  · refine ⟨_, l.length, c', 0, xs, ⟨?_, k2.size, by omega, k3, by have := HB.out; omega, .inr ⟨g, rfl, hB, hx, (b2.block g hr.lt).trans hr⟩, by simpa using ht⟩⟩
    rw [heap_alloc_new]; simp
end Go.Proofs.Ytdmjfmojacnbeaa.Free
end
section
namespace Go.Proofs.Ytdmjfmojacnbeaa.Same
open Go.RowKit
open Go.Proofs.Ytdmjfmojacnbeaa.Base
open Go.Proofs.Ytdmjfmojacnbeaa.Held
open Go.Proofs.Ytdmjfmojacnbeaa.Lay
open Go.Proofs.Ytdmjfmojacnbeaa.Free
open Go.Proofs.Ytdmjfmojacnbeaa.App
set_option linter.unusedVariables false
set_option linter.unusedSimpArgs false
theorem Rd.get {G : Nat → Prop} {w : World} {a : Option Addr} {l : List El} (h : Rd G w a l) (hl : 0 < l.length) : ∃ g o, a = some ⟨g, o, none⟩ ∧ G g ∧ ∀ j x, l[j]? = some x → w.cell? ⟨g, o + j, none⟩ = some (V x) := by
  rcases h with e | q
  · rw [e] at hl; simp at hl
  · exact q
set_option maxHeartbeats 1000000 in
set_option maxRecDepth 100000 in
theorem same_call {G G' : Nat → Prop} {w : World} {u v : Value} {l l' : List El} (h : SL G w u l) (h' : SL G' w v l') (e : l = l') (hl : l.length ≤ 35184372088832) :
    Calls Try.prog 13 #[u, v] w fun e w' => e = .returned (.bool true) ∧ ∃ m, w' = w.drewN m := by
  subst e
  obtain ⟨a, c, rfl, hc, hr⟩ := h
  obtain ⟨a', c', rfl, hc', hr'⟩ := h'
  have H1 := hid_of hr
  have H2 := hid_of hr'
  obtain ⟨L, HL⟩ : ∃ L, Hid (L = l.length) := ⟨_, hid_of rfl⟩
  rw [← HL.out] at hl ⊢
  clear hr hr' hc hc'
  go_enter Try.func13, Try.ntmps13
  go_wp2_with fail
  go_loopg [5] L (fun g s5 wx => ∃ i : Nat, i ≤ L ∧ L ≤ i + g ∧ s5 = .int .i64 (i : Int) ∧ Hid (∃ m, wx = w.drewN m))
  case atStart => exact ⟨0, by omega, by omega, rfl, 0, rfl⟩
  case round =>
    obtain ⟨i, hi, hg, rfl, R⟩ := hrel
    by_cases hlt : i < L
    · obtain ⟨g', rfl⟩ : ∃ g', gk = g' + 1 := ⟨gk - 1, by omega⟩
      have hil : i < l.length := by rw [← HL.out]; exact hlt
      obtain ⟨g1, o1, rfl, _, q1⟩ := Rd.get H1.out (by omega)
      obtain ⟨g2, o2, rfl, _, q2⟩ := Rd.get H2.out (by omega)
      have c1 : wr.cell? ⟨g1, o1 + i, none⟩ = some (V l[i]) := by obtain ⟨m, rfl⟩ := R.out; exact q1 i _ (List.getElem?_eq_getElem hil)
      have c2 : wr.cell? ⟨g2, o2 + i, none⟩ = some (V l[i]) := by obtain ⟨m, rfl⟩ := R.out; exact q2 i _ (List.getElem?_eq_getElem hil)
      generalize l[i] = x at *
      clear q1 q2
      go_wp2_with fail
      go_quiet (fail)
      go_wp2_with fail
      go_roundg g'
      case measure => omega
      case rel => exact ⟨i + 1, by omega, by omega, by simp, by obtain ⟨m, e⟩ := R.out; exact ⟨m + nq, by rw [e, World.drewN_drewN]⟩⟩
    · go_wp2_with fail
      go_ret
      exact ⟨rfl, R.out⟩
set_option maxRecDepth 100000 in
theorem joined_call {G G' : Nat → Prop} {w : World} {u v : Value} {l m : List El} (h : SL G w u l) (h' : SL G' w v m) (hb : (l.length + m.length) * 8 ≤ 140737488355328) :
    Calls Try.prog 20 #[u, v] w fun e w' => ∃ r, e = .returned r ∧ NR w.heap.size w' r (l ++ m) ∧ Below w.heap.size w w' := by
  obtain ⟨a, c, rfl, hc, hr⟩ := h
  obtain ⟨a', c', rfl, hc', hr'⟩ := h'
  obtain ⟨v1, w1, hrun1, n1, b1⟩ := app_nil (c := c) hr (by omega) 22
  obtain ⟨v2, w2, hrun2, n2, b2⟩ := app_any (c := c') n1 (hr'.keep (w' := w1) fun k hk _ => b1.block k hk) hb b1.size 22
  have H := hid_of (And.intro n2 (b1.trans b2))
  clear n1 n2 b1 b2 hr hr' hb
  go_enter Try.func20, Try.ntmps20
  go_wp2_with (first | (at_builtin; refine wpl_eq rfl _ _ 22 22 rfl (.slice none 0 0) (.slice a l.length c) v1 _ w1 rfl rfl hrun1 ?_; clear hrun1) | (at_builtin; refine wpl_eq rfl _ _ 22 22 rfl v1 (.slice a' m.length c') v2 _ w2 rfl rfl hrun2 ?_))
  go_ret
  exact ⟨v2, rfl, H.out⟩
set_option maxHeartbeats 1000000 in
set_option maxRecDepth 100000 in
theorem turned_call {G : Nat → Prop} {w : World} {u : Value} {l : List El} (h : SL G w u l) (hb : l.length * 8 ≤ 140737488355328) :
    Calls Try.prog 24 #[u] w fun e w' => ∃ r, e = .returned r ∧ NR w.heap.size w' r l.reverse ∧ Below w.heap.size w w' := by
  obtain ⟨a, c, rfl, hc, hr⟩ := h
  have H1 := hid_of hr
  obtain ⟨L, HL⟩ : ∃ L, Hid (L = l.length) := ⟨_, hid_of rfl⟩
  rw [← HL.out] at hb ⊢
  clear hr hc
  go_enter Try.func24, Try.ntmps24
  go_wp2_with fail
  go_loopg [3, 4] L (fun g s3 s4 wx => ∃ (i : Nat) (ra : Option Addr) (rn rc : Nat), i ≤ L ∧ L ≤ i + g ∧ s3 = .slice ra rn rc ∧ s4 = .int .i64 ((L : Int) - 1 - i) ∧ Hid (NR w.heap.size wx (.slice ra rn rc) (l.drop (L - i)).reverse ∧ Below w.heap.size w wx))
  case atStart => exact ⟨0, none, 0, 0, by omega, by omega, rfl, by simp, ⟨.inl ⟨rfl, by rw [HL.out]; simp⟩, Below.refl _ _⟩⟩
  case round =>
    obtain ⟨i, ra, rn, rc, hi, hg, rfl, rfl, R⟩ := hrel
    by_cases hlt : i < L
    · obtain ⟨g', rfl⟩ : ∃ g', gk = g' + 1 := ⟨gk - 1, by omega⟩
      obtain ⟨j, hj⟩ : ∃ j, L = j + 1 + i := ⟨L - 1 - i, by omega⟩
      have hjl : j < l.length := by rw [← HL.out]; omega
      have jI : (L : Int) - 1 - (i : Int) = (j : Int) := by omega
      rw [jI]
      obtain ⟨nr, bl⟩ := R.out
      obtain ⟨g1, o1, rfl, _, q1⟩ := Rd.get (H1.out.keep (w' := wr) fun k hk _ => bl.block k hk) (by omega)
      have c1 : wr.cell? ⟨g1, o1 + j, none⟩ = some (V l[j]) := q1 j _ (List.getElem?_eq_getElem hjl)
      have hrl : ((l.drop (L - i)).reverse).length = i := by rw [List.length_reverse, List.length_drop, ← HL.out]; omega
      obtain ⟨v2, w2, hrun, n2, b2⟩ := app_one l[j] nr (by rw [hrl]; omega) bl.size 22
      obtain ⟨a2, c2, rfl, hc2⟩ : ∃ a2 c2, v2 = .slice a2 (i + 1) c2 ∧ i + 1 ≤ c2 := by
        obtain ⟨a2, c2, e, h2, _⟩ := NR.shape n2
        rw [List.length_append, hrl] at e h2
        exact ⟨a2, c2, e, h2⟩
      have K := hid_of (show NR w.heap.size w2 (.slice a2 (i + 1) c2) (l.drop (L - (i + 1))).reverse ∧ Below w.heap.size w w2 from ⟨by
        rw [show L - (i + 1) = j by omega, List.drop_eq_getElem_cons hjl, List.reverse_cons, show j + 1 = L - i by omega]
        exact n2, bl.trans b2⟩)
      have d1 : (0 : Int) ≤ (j : Int) := by omega
      have d2 : j < L := by omega
      have HJ := hid_of hj
      generalize l[j] = x at *
      clear R nr bl n2 b2 q1 hj jI
      go_wp2_with (at_builtin; refine wpl_eq rfl _ _ 22 22 rfl (.slice ra rn rc) (.slice (some ⟨wr.heap.size, 0, none⟩) 1 1) (.slice a2 (i + 1) c2) _ w2 rfl rfl hrun ?_)
      go_roundg g'
      case measure => omega
      case rel => exact ⟨i + 1, a2, i + 1, c2, by omega, by omega, rfl, by have := HJ.out; congr 1; omega, K⟩
    · have d1 : ¬ (0 : Int) ≤ (L : Int) - 1 - i := by omega
      have R2 := hid_of R.out
      have hi2 : L - i = 0 := by omega
      clear R
      go_wp2_with fail
      go_ret
      obtain ⟨r1, r2⟩ := R2.out
      rw [hi2, List.drop_zero] at r1
      exact ⟨_, rfl, r1, r2⟩
theorem sl_new (w : World) (l : List El) : SL (fun k => w.heap.size ≤ k) (w.alloc (.cells (cells l) 3)) (.slice (some ⟨w.heap.size, 0, none⟩) l.length l.length) l := by
  refine ⟨_, _, rfl, Nat.le_refl _, .inr ⟨w.heap.size, 0, rfl, Nat.le_refl _, fun j x hj => ?_⟩⟩
  rw [Lib.cell_of_heap (heap_alloc_new w _), cells_get, Nat.zero_add, hj]
  rfl
end Go.Proofs.Ytdmjfmojacnbeaa.Same
end
