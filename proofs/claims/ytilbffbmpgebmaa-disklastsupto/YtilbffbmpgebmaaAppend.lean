/- append to a row of the disk's own: what it comes to, and where it lies. -/
import Derived.Test.YtilbffbmpgebmaaFile2
namespace Go.Proofs.Ytilbffbmpgebmaa.Append
open Go.RowKit Go.Maps
open Go.Proofs.Ytilbffbmpgebmaa.DiskMath
open Go.Proofs.Ytilbffbmpgebmaa.Base
open Go.Proofs.Ytilbffbmpgebmaa.Small
open Go.Proofs.Ytilbffbmpgebmaa.Find
open Go.Proofs.Ytilbffbmpgebmaa.File
open Go.Proofs.Ytilbffbmpgebmaa.File2
set_option linter.unusedVariables false

theorem info5 : (Try.prog.info? 5).map (fun i => (i.zero, i.size, i.bytes)) = some (some (.int .u8 0), 1, 1) := by kernel_rfl
theorem info98 : (Try.prog.info? 98).map (fun i => (i.zero, i.size, i.bytes)) = some (some (.agg #[.string ⟨#[]⟩, .string ⟨#[]⟩, .pointer none]), 3, 40) := by kernel_rfl
theorem info9 : (Try.prog.info? 9).map (fun i => (i.zero, i.size, i.bytes)) = some (some (.string ⟨#[]⟩), 1, 16) := by kernel_rfl
theorem parts {e : TypeId} {z : Value} {n m : Nat} (h : (Try.prog.info? e).map (fun i => (i.zero, i.size, i.bytes)) = some (some z, n, m)) : ∃ i, Try.prog.info? e = some i ∧ i.zero = some z ∧ i.size = n ∧ i.bytes = m := by
  cases hi : Try.prog.info? e with
  | none => rw [hi] at h; cases h
  | some i =>
    rw [hi] at h
    simp at h
    exact ⟨i, rfl, h.1, h.2.1, h.2.2⟩
theorem app_cells (t : Bs) (s : ByteArray) : Lib.strCells (mk (t ++ bs s)) = Lib.strCells (mk t) ++ Lib.strCells s := by
  show ((t ++ s.data.toList).toArray.toList.map _) = t.toArray.toList.map _ ++ s.data.toList.map _
  simp
set_option maxRecDepth 100000 in
theorem append_str (base ty : Nat) (w : World) (v : Value) (t : Bs) (s : ByteArray) (h : w.ownsRow base 5 1 v t.length (Lib.strCells (mk t))) (hz : t.length + s.size ≤ 140737488355328) (hb : base ≤ w.heap.size) :
    ∃ a c w', (Builtin.append_ #[84, 9] ty #[v, .string s]).run Try.prog w = .ok (.slice a (t.length + s.size) c) w' ∧ w'.ownsRow base 5 1 (.slice a (t.length + s.size) c) (t ++ bs s).length (Lib.strCells (mk (t ++ bs s))) ∧ w.grownBy w' v.ownBlock ∧ ((Value.slice a (t.length + s.size) c).ownBlock = v.ownBlock ∨ (Below w.heap.size w w' ∧ ∀ g, (Value.slice a (t.length + s.size) c).ownBlock = some g → w.heap.size ≤ g)) := by
  obtain ⟨i, hi, hz0, hz1, hz2⟩ := parts info5
  obtain ⟨v', w', hr, h2, h3, h4⟩ := Lib.run_append_own_string (P := Try.prog) w base 84 9 ty 5 i Try.underlying84 Try.underlying9 hi hz0 hz1 hz2 v t.length _ h s (by unfold maxLen; omega) hz hb
  obtain ⟨a, c, rfl⟩ := row_shape h2
  refine ⟨a, c, w', hr, ?_, h3, ?_⟩
  · rw [app_cells, List.length_append, len_bs]; exact h2
  · have hs := Src.ofString (P := Try.prog) w Try.underlying9 s
    rcases h.2 with ⟨rfl, hn⟩ | ⟨g, cap, cur, rfl, hbg, hg, hnc, hcm, hcs, htake⟩
    · have ht : t = [] := List.length_eq_zero_iff.1 hn
      subst ht
      obtain ⟨v2, w2, hr2, h5, _, _⟩ := Lib.run_append_own_string (P := Try.prog) w w.heap.size 84 9 ty 5 i Try.underlying84 Try.underlying9 hi hz0 hz1 hz2 (.slice none 0 0) 0 [] (World.ownsRow_nil _ _ _ _) s (by unfold maxLen; simp at hz; omega) (by simpa using hz) (Nat.le_refl _)
      rw [hr] at hr2
      injection hr2 with e1 e2
      subst e1
      exact Or.inr ⟨⟨h3.os, h3.tape, h3.output, h3.size, fun k hk => h3.block k hk (by simp [Value.ownBlock])⟩, fun g hg => (h5.lt g hg).1⟩
    · by_cases hroom : t.length + s.size ≤ cap
      · have hcell : ∀ j, j < (Lib.strCells s).length → (w.cell? ⟨g, 0 + t.length * i.size + j, none⟩).isSome = true := by
          intro j hj
          rw [Lib.strCells_length] at hj
          rw [Lib.cell_of_heap hg, hz1, Array.getElem?_eq_getElem (by omega)]
          rfl
        have hr2 := run_append_room_src (P := Try.prog) w 84 9 ty 5 i Try.underlying84 hi g 0 t.length cap (.string s) s.size (Lib.strCells s) (by rw [hz1]; exact hs) hroom hcell (fun j _ => Lib.frozen_of_heap hg _)
        rw [hr] at hr2
        injection hr2 with e1 e2
        rw [e1]
        exact Or.inl rfl
      · have hold : (Builtin.firstCells i.size t.length (.slice (some ⟨g, 0, none⟩) t.length cap)).run Try.prog w.drew = .ok (Lib.strCells (mk t)).toArray w.drew := by
          refine run_firstCells_some (P := Try.prog) w.drew i.size t.length ⟨g, 0, none⟩ t.length cap (Lib.strCells (mk t)) (by rw [Lib.strCells_length, hz1, Nat.mul_one, mk_size]) ?_
          intro j u hj
          exact h.cells (g := g) rfl j u hj
        have hr2 := run_append_grow_src (P := Try.prog) w 84 9 ty 5 i (.int .u8 0) Try.underlying84 hi hz0 (some ⟨g, 0, none⟩) t.length cap (Lib.strCells (mk t)) hold (.string s) s.size (Lib.strCells s) (by rw [hz1]; exact hs) (by omega) (by omega) (growslice_fits (by omega) (by rw [hz2]; omega))
        rw [hr] at hr2
        injection hr2 with e1 e2
        rw [e1, e2]
        refine Or.inr ⟨(Below.refl _ w).drew.alloc (Nat.le_refl _) _, fun g2 hg2 => ?_⟩
        have e : w.heap.size = g2 := by simpa [Value.ownBlock] using hg2
        exact Nat.le_of_eq e
section
variable {ops : Array Oper} {rest : List Oper} {o : Oper} {a : Act} {Q : Exit → Act → World → Prop}
theorem wpl_eq (hgd : o.guard = none) (s x : Operand) (t tx : TypeId) (ho : o.op = .call { callee := .builtin .append, args := #[s, x], argTypes := #[t, tx] }) (v u v' : Value) (W W' : World) (hs : a.eval s = v) (hx : a.eval x = u)
    (hr : (Builtin.append_ #[t, tx] o.type #[v, u]).run Try.prog W = .ok v' W') (hK : wpList Try.prog ops Q rest (a.put o.dst v') W') : wpList Try.prog ops Q (o :: rest) a W := by
  refine wpList_plain hgd fun K hK2 => ?_
  unfold Oper.wp execOp
  simp only [ho, resolve, invoke, builtin, Sem.run_bind, Sem.run_pure, Result.andThen_ok, List.map_toArray, List.map_cons, List.map_nil, hs, hx, hr]
  exact hK2 _ _ hK
end
set_option maxRecDepth 100000 in
theorem append_ch (base ty : Nat) (w : World) (v : Value) (n : Nat) (xs : List Value) (a0 : Nat) (u1 u2 u3 : Value) (h : w.ownsRow base 98 3 v n xs) (hn : n < 1099511627776) (hb : base ≤ w.heap.size)
    (hs : w.heap[a0]? = some (.cells #[u1, u2, u3] 98 (0, 0))) (o1 : u1.oneCell' = true) (o2 : u2.oneCell' = true) (o3 : u3.oneCell' = true) :
    ∃ a c w', (Builtin.append_ #[67, 67] ty #[v, .slice (some ⟨a0, 0, none⟩) 1 1]).run Try.prog w = .ok (.slice a (n + 1) c) w' ∧ w'.ownsRow base 98 3 (.slice a (n + 1) c) (n + 1) (xs ++ [u1, u2, u3]) ∧ w.grownBy w' v.ownBlock ∧ ((Value.slice a (n + 1) c).ownBlock = v.ownBlock ∨ (Below w.heap.size w w' ∧ ∀ g, (Value.slice a (n + 1) c).ownBlock = some g → w.heap.size ≤ g)) := by
  obtain ⟨i, hi, hz0, hz1, hz2⟩ := parts info98
  have hnews : ∀ (j : Nat) u, [u1, u2, u3][j]? = some u → w.cell? ((⟨a0, 0, none⟩ : Addr).add j) = some u := fun j u hj => by
    have e : (⟨a0, 0, none⟩ : Addr).add j = ⟨a0, j, none⟩ := by unfold Addr.add; by_cases h0 : j = 0 <;> simp [h0]
    rw [e, Lib.cell_of_heap hs, ← hj]
    simp
  have h1 : ∀ u ∈ [u1, u2, u3], u.oneCell' = true := fun u hu => by
    simp only [List.mem_cons, List.not_mem_nil, or_false] at hu
    rcases hu with rfl | rfl | rfl <;> assumption
  obtain ⟨v', w', hr, h2, h3, h4⟩ := run_append_own (P := Try.prog) w base 67 ty 98 i _ 3 40 Try.underlying67 hi hz0 hz1 hz2 rfl (by decide) v n xs h ⟨a0, 0, none⟩ 1 1 [u1, u2, u3] rfl hnews h1 (by unfold maxLen; omega) (by omega) hb
  obtain ⟨a, c, rfl⟩ := row_shape h2
  refine ⟨a, c, w', hr, h2, h3, ?_⟩
  rcases h.2 with ⟨rfl, hn0⟩ | ⟨g, cap, cur, rfl, hbg, hg, hnc, hcm, hcs, htake⟩
  · subst hn0
    have hx : xs = [] := List.length_eq_zero_iff.1 (by rw [h.1])
    subst hx
    obtain ⟨v2, w2, hr2, h5, _, _⟩ := run_append_own (P := Try.prog) w w.heap.size 67 ty 98 i _ 3 40 Try.underlying67 hi hz0 hz1 hz2 rfl (by decide) (.slice none 0 0) 0 [] (World.ownsRow_nil _ _ _ _) ⟨a0, 0, none⟩ 1 1 [u1, u2, u3] rfl hnews h1 (by unfold maxLen; omega) (by omega) (Nat.le_refl _)
    rw [hr] at hr2
    injection hr2 with e1 e2
    subst e1
    exact Or.inr ⟨⟨h3.os, h3.tape, h3.output, h3.size, fun k hk => h3.block k hk (by simp [Value.ownBlock])⟩, fun g hg => (h5.lt g hg).1⟩
  · by_cases hroom : n + 1 ≤ cap
    · have hr2 := run_append_room (P := Try.prog) w 67 ty 98 i Try.underlying67 hi g n cap cur hg ⟨a0, 0, none⟩ 1 1 [u1, u2, u3] (by rw [hz1]; rfl) hnews h1 hroom (by rw [hz1, hcs]; simp; omega)
      rw [hr] at hr2
      injection hr2 with e1 e2
      rw [e1]
      exact Or.inl rfl
    · have hr2 := run_append_grow (P := Try.prog) w 67 ty 98 i _ Try.underlying67 hi hz0 ⟨g, 0, none⟩ n cap xs (by rw [hz1]; exact h.1) (h.cells (g := g) rfl) ⟨a0, 0, none⟩ 1 1 [u1, u2, u3] (by rw [hz1]; rfl) hnews (by omega) (by omega) (growslice_fits (by omega) (by rw [hz2]; omega))
      rw [hr] at hr2
      injection hr2 with e1 e2
      rw [e1, e2]
      refine Or.inr ⟨(Below.refl _ w).drew.alloc (Nat.le_refl _) _, fun g2 hg2 => ?_⟩
      have e : w.heap.size = g2 := by simpa [Value.ownBlock] using hg2
      exact Nat.le_of_eq e
/- the laying of bytes behind a file's -/
theorem lay_file {base b : Nat} {y : Lay} {d : Dk} {w : World} (h : DK base b y d w) (i : Nat) (x : Bs × Nat) (hx : d.files[i]? = some x) (s : ByteArray) (hz : x.1.length + s.size ≤ 140737488355328) :
    ∃ a c w', (Builtin.append_ #[84, 9] 84 #[y.tv i, .string s]).run Try.prog w = .ok (.slice a (x.1.length + s.size) c) w' ∧ w'.cell? ⟨y.pos i, 0, none⟩ = some (y.tv i) ∧ w'.frozen? ⟨y.pos i, 0, none⟩ = false ∧
      Has base b (d.upd i (fun x => (x.1 ++ bs s, x.2))) (w'.setCell ⟨y.pos i, 0, none⟩ (.slice a (x.1.length + s.size) c)) ∧ Ev DT base w (w'.setCell ⟨y.pos i, 0, none⟩ (.slice a (x.1.length + s.size) c)) := by
  have q := h.fl i x hx
  obtain ⟨a, c, w', hr, ho, hg, hw⟩ := append_str base 84 w (y.tv i) x.1 s q.row hz h.hb
  have hbk : w'.heap[y.pos i]? = some (.cells #[y.tv i, .int .i64 x.2] 86 (0, 0)) := (hg.block _ (lt_of q.blk) (fun e => by
    have := (row_kd q.row e.symm).1
    rw [kd_cells q.blk] at this
    cases this)).trans q.blk
  have hne : ∀ g, (Value.slice a (x.1.length + s.size) c).ownBlock = some g → g ≠ y.pos i := fun g h1 e => by
    have := (row_kd ho h1).1
    rw [e, kd_cells hbk] at this
    cases this
  have ev1 : Ev DT base w w' := by
    rcases hw with e | ⟨hbl, _⟩
    · cases hv : (y.tv i).ownBlock with
      | none => rw [hv] at hg; exact Ev.none hg
      | some g =>
        rw [hv] at hg e
        obtain ⟨k1, k2, k3⟩ := row_kd q.row hv
        exact Ev.one hg k2 k3 (by rw [k1]; rfl) (by rw [(row_kd ho e).1, k1])
    · exact Ev.of_below hbl
  have hw2 : ∀ g, (Value.slice a (x.1.length + s.size) c).ownBlock = some g → (y.tv i).ownBlock = some g ∨ w.heap.size ≤ g := fun g h1 => by
    rcases hw with e | ⟨_, e⟩
    · exact Or.inl (e ▸ h1)
    · exact Or.inr (e g h1)
  refine ⟨a, c, w', hr, Lib.cell_of_heap hbk 0, Lib.frozen_of_heap hbk 0, ?_, ev1.trans (Ev.set hbk q.low rfl _)⟩
  refine ⟨_, DK.turn1 h i x hx _ (.slice a (x.1.length + s.size) c) (fun k hk h1 h2 => (set_ne h1 _).trans (hg.block k hk (fun e => h2 e.symm))) (by rw [size_set]; exact hg.size) ⟨?_, row_later ho fun g h1 => set_ne (hne g h1) _, q.low, ?_, ?_⟩ hw2⟩
  · exact set_at hbk _
  · show x.2 ≤ (x.1 ++ bs s).length
    have := q.le
    rw [List.length_append]; omega
  · show (x.1 ++ bs s).length ≤ _
    rw [List.length_append, len_bs]; exact hz
theorem ext_take (s : ByteArray) (n : Nat) : bs (s.extract 0 n) = (bs s).take n := by
  unfold bs
  rw [ByteArray.data_extract]
  simp
theorem ext_size (s : ByteArray) (n : Nat) (hn : n ≤ s.size) : (s.extract 0 n).size = n := by rw [← len_bs, ext_take, List.length_take, len_bs]; omega
set_option maxHeartbeats 2000000 in
set_option maxRecDepth 100000 in
theorem append_call (base b : Nat) (y : Lay) (d : Dk) (w : World) (h : DK base b y d w) (s t : ByteArray) (hs : s.size ≤ 281474976710656) (hst : StepC base b d) (hz : ∀ x, d.files[d.file (bs s)]? = some x → x.1.length + t.size ≤ 140737488355328) (ht : t.size ≤ 281474976710656) :
    Calls Try.prog 17 #[ptr b, .string s, .string t] w fun e w' => e = .returned (.tuple #[.int .i64 (d.append (bs s) (bs t)).2.1, .int .i64 (d.append (bs s) (bs t)).2.2]) ∧ Has base b (d.append (bs s) (bs t)).1 w' ∧ Ev DT base w w' := by
  have H := hid_of h
  have H1 := hid_of (find_call base b y d w h s hs)
  have HW := hid_of within_call
  by_cases ha : d.asked (bs s) = 0
  · have HS := hid_of hst
    have HA := hid_of ha
    have HZ := hid_of hz
    rw [findV_yes ha, ha] at H1
    by_cases he : d.fault.2.2 = 0
    · have e1 : d.append (bs s) (bs t) = (d.fault.1.upd (d.file (bs s)) (fun x => (x.1 ++ bs t, x.2)), ((bs t).length : Int), d.fault.2.2) := by unfold Dk.append; rw [if_neg (by simp [ha])]; dsimp only; rw [if_pos he]
      rw [e1]
      rw [len_bs]
      have HE := hid_of he
      clear h ha he e1 hz hst
      unfold ptr at H1 ⊢
      go_enter Try.func17, Try.ntmps17
      go_wp2_with fail
      refine H1.out.mono ?_
      rintro e w1 ⟨rfl, b1⟩
      have H2 := hid_of (HS.out y w1 (H.out.below b1))
      rw [HE.out] at H2
      unfold ptr at H2
      have B1 := hid_of b1
      clear b1
      go_wp2_with fail
      refine H2.out.mono ?_
      rintro e w2 ⟨rfl, ⟨pv, k2⟩, ev2⟩
      obtain ⟨x, hx, q⟩ := file_at k2 HA.out H.out.ok
      have hxz := HZ.out x (by rw [← (fault_same d).1]; exact hx)
      obtain ⟨a, c, w3, hr, c3, f3, hh, ev3⟩ := lay_file k2 (d.file (bs s)) x hx t hxz
      dsimp only at hr c3 f3 hh ev3
      obtain ⟨a0, c0', hv⟩ := row_shape q.row
      dsimp only at hv
      rw [hv] at hr c3
      have c2 : w2.cell? ⟨y.pos (d.file (bs s)), 0, none⟩ = some (.slice a0 x.1.length c0') := by rw [← hv]; exact Lib.cell_of_heap q.blk 0
      have HH := hid_of hh
      have V := hid_of (((Ev.of_below B1.out).trans ev2).trans ev3)
      clear k2 ev2 hx q hxz hh ev3 hv
      go_wp2_with (at_builtin; refine wpl_eq rfl _ _ 84 9 rfl (.slice a0 x.1.length c0') (.string t) (.slice a (x.1.length + t.size) c) w2 w3 rfl rfl hr ?_)
      go_wp2_with fail
      go_ret2
      exact ⟨by rw [HE.out]; rfl, HH.out, V.out⟩
    · have hsz := within_le d.fault.2.1 t.size
      have e1 : d.append (bs s) (bs t) = (d.fault.1.upd (d.file (bs s)) (fun x => (x.1 ++ bs (t.extract 0 (within d.fault.2.1 t.size)), x.2)), ((within d.fault.2.1 t.size : Nat) : Int), d.fault.2.2) := by
        unfold Dk.append
        rw [if_neg (by simp [ha])]
        dsimp only
        rw [if_neg he, ext_take, len_bs]
        have : ((bs t).take (within d.fault.2.1 t.size)).length = within d.fault.2.1 t.size := by rw [List.length_take, len_bs]; omega
        rw [this]
      have g1 : (d.fault.2.2 == 0) = false := by simpa using he
      obtain ⟨u, hu⟩ : ∃ u, u = t.extract 0 (within d.fault.2.1 t.size) := ⟨_, rfl⟩
      have hus : u.size = within d.fault.2.1 t.size := by rw [hu]; exact ext_size t _ hsz
      have hsl : ∀ W, (Instr.slice 9 (.string t) none (some (.int .i64 ((within d.fault.2.1 t.size : Nat) : Int))) none).run Try.prog W = .ok (.string u) W := fun W => by
        have := run_slice_string_to_if (P := Try.prog) (w := W) 9 t .i64 ((within d.fault.2.1 t.size : Nat) : Int) Try.underlying9
        rw [this, if_pos ⟨by omega, by omega⟩, hu]
        rfl
      have e2 : ((within d.fault.2.1 t.size : Nat) : Int) = (u.size : Int) := by rw [hus]
      rw [e1, ← hu, e2]
      rw [e2] at hsl
      have HU : Hid (u.size ≤ t.size) := by rw [hus]; exact hsz
      have hE2 := hid_of e2
      clear h ha he e1 hz hst hu hus hsz e2
      unfold ptr at H1 ⊢
      go_enter Try.func17, Try.ntmps17
      go_wp2_with fail
      refine H1.out.mono ?_
      rintro e w1 ⟨rfl, b1⟩
      have H2 := hid_of (HS.out y w1 (H.out.below b1))
      unfold ptr at H2
      have B1 := hid_of b1
      clear b1
      go_wp2_with fail
      refine H2.out.mono ?_
      rintro e w2 ⟨rfl, ⟨pv, k2⟩, ev2⟩
      obtain ⟨x, hx, q⟩ := file_at k2 HA.out H.out.ok
      have hxz := HZ.out x (by rw [← (fault_same d).1]; exact hx)
      obtain ⟨a, c, w3, hr, c3, f3, hh, ev3⟩ := lay_file k2 (d.file (bs s)) x hx u (by have := HU.out; omega)
      dsimp only at hr c3 f3 hh ev3
      obtain ⟨a0, c0', hv⟩ := row_shape q.row
      dsimp only at hv
      rw [hv] at hr c3
      have c2 : w2.cell? ⟨y.pos (d.file (bs s)), 0, none⟩ = some (.slice a0 x.1.length c0') := by rw [← hv]; exact Lib.cell_of_heap q.blk 0
      have HH := hid_of hh
      have V := hid_of (((Ev.of_below B1.out).trans ev2).trans ev3)
      have HW2 := hid_of (HW.out d.fault.2.1 t.size w2)
      rw [hE2.out] at HW2
      clear k2 ev2 hx q hxz hh ev3 hv
      go_wp2_with fail
      refine HW2.out.mono ?_
      rintro e w2' ⟨rfl, rfl⟩
      go_wp2_with (at_builtin; refine wpl_eq rfl _ _ 84 9 rfl (.slice a0 x.1.length c0') (.string u) (.slice a (x.1.length + u.size) c) w2' w3 rfl rfl hr ?_)
      go_wp2_with fail
      go_ret2
      exact ⟨rfl, HH.out, V.out⟩
  · have e1 : d.append (bs s) (bs t) = (d, 0, d.asked (bs s)) := by unfold Dk.append; rw [if_pos ha]
    have g1 : (d.asked (bs s) == 0) = false := by simpa using ha
    rw [findV_no ha] at H1
    rw [e1]
    clear h ha e1 hst hz
    unfold ptr at H1 ⊢
    go_enter Try.func17, Try.ntmps17
    go_wp2_with fail
    refine H1.out.mono ?_
    rintro e w1 ⟨rfl, b1⟩
    have B := hid_of b1
    clear b1
    go_wp2_with fail
    go_ret2
    exact ⟨rfl, ⟨_, H.out.below B.out⟩, Ev.of_below B.out⟩
end Go.Proofs.Ytilbffbmpgebmaa.Append
