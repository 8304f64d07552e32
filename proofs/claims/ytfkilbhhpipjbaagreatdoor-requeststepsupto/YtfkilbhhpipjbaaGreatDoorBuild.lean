/- strings.Builder, with what each call may touch. -/
import Derived.Test.YtfkilbhhpipjbaaGreatDoorWhole
import Derived.Shelf.Strings.BuilderK
namespace Go.Proofs.YtfkilbhhpipjbaaGreatDoor.Build
open Go.RowKit Go.Shelf
open Go.Proofs.YtfkilbhhpipjbaaGreatDoor.ReqMath
open Go.Proofs.YtfkilbhhpipjbaaGreatDoor.Base
open Go.Proofs.YtfkilbhhpipjbaaGreatDoor.Small
open Go.Proofs.YtfkilbhhpipjbaaGreatDoor.Append
open Go.Proofs.YtfkilbhhpipjbaaGreatDoor.Bulk2 (owns_kind)
set_option linter.unusedVariables false

theorem size66 : (Tryz.prog.info? 66).map (·.size) = some 2 := by kernel_rfl
theorem lies66 : liesAt Tryz.prog Tryz.prog.depth 66 (2 / Tryz.prog.cellsOf 66) 0 66 1 = true := by kernel_rfl
theorem info5x : (Tryz.prog.info? 5).map (fun i => (i.zero, i.size, i.bytes)) = some (some (.int .u8 0), 1, 1) := by kernel_rfl

set_option maxHeartbeats 1000000 in
set_option maxRecDepth 100000 in
theorem check_used (b : Nat) (w : World) (h0 : w.cell? ⟨b, 0, none⟩ = some (.pointer (some ⟨b, 0, none⟩))) :
    Calls Tryz.prog 53 #[.pointer (some ⟨b, 0, none⟩)] w fun e w' => e = .returned (.tuple #[]) ∧ w' = w := by
  obtain ⟨j, hj, _⟩ := Option.map_eq_some_iff.1 size66
  go_enter Tryz.func53, Tryz.ntmps53
  go_wp2
  rw [Lib.run_neq_ptr_same w _ Tryz.underlying64 hj]
  go_wp2
  go_end0
  exact ⟨rfl, rfl⟩
set_option maxHeartbeats 1000000 in
set_option maxRecDepth 100000 in
theorem check_fresh (b : Nat) (w : World) (h0 : w.cell? ⟨b, 0, none⟩ = some (.pointer none)) (hsh : w.shape? b = some (66, 2)) (hfz : w.frozen? ⟨b, 0, none⟩ = false) :
    Calls Tryz.prog 53 #[.pointer (some ⟨b, 0, none⟩)] w fun e w' => e = .returned (.tuple #[]) ∧ w' = w.setCell ⟨b, 0, none⟩ (.pointer (some ⟨b, 0, none⟩)) := by
  obtain ⟨j, hj, hjs⟩ := Option.map_eq_some_iff.1 size66
  go_enter Tryz.func53, Tryz.ntmps53
  go_wp2
  rw [Lib.run_to_unsafe w ⟨b, 0, none⟩ Tryz.underlying64 Tryz.underlying108 hj (by rw [hjs]; decide) hsh (Nat.zero_lt_succ 1)]
  simp only [Result.andThen]
  rw [Oper.upon_value]
  go_wp2
  rw [run_callFunc_extern Tryz.func68 (by kernel_rfl) (by kernel_rfl) (by kernel_rfl) (e := Extern.AbiNoEscape.same) (by kernel_rfl)]
  rw [Lib.run_noEscape]
  simp only [Result.andThen]
  rw [Oper.upon_value]
  go_wp2
  rw [Lib.run_from_unsafe w ⟨b, 0, none⟩ Tryz.underlying108 Tryz.underlying64 hj hsh lies66]
  simp only [Result.andThen]
  rw [Oper.upon_value]
  go_wp2
  go_end0
  exact ⟨rfl, rfl⟩
theorem append_where_str (W : World) (v : Value) (l : List UInt8) (s : ByteArray) (ty : TypeId) (h : W.ownsRow 8 5 1 v l.length (Lib.byteCells l)) (hB : 8 ≤ W.heap.size) (hlen : l.length + s.size ≤ 1000000000) :
    ∃ v' w', (Builtin.append_ #[61, 9] ty #[v, .string s]).run Tryz.prog W = .ok v' w' ∧ w'.ownsRow 8 5 1 v' (l ++ bs s).length (Lib.byteCells (l ++ bs s)) ∧ W.grownBy w' v.ownBlock ∧ (∀ g, v'.ownBlock = some g → v.ownBlock = some g ∨ W.heap.size ≤ g) ∧ (v' = .slice none 0 0 ↔ v = .slice none 0 0 ∧ s.size = 0) := by
  obtain ⟨i0, hi0, hz0, hz1, hz2⟩ := info_parts info5
  obtain ⟨v', w', hr, h2, h3, h4⟩ := Lib.run_append_own_string (P := Tryz.prog) W 8 61 9 ty 5 i0 Tryz.underlying61 Tryz.underlying9 hi0 hz0 hz1 hz2 v _ _ h s (by unfold maxLen; omega) (by omega) hB
  refine ⟨v', w', hr, by rw [List.length_append, len_bs, Lib.byteCells_append]; exact h2, h3, ?_, h4⟩
  rcases h.2 with ⟨rfl, hn⟩ | ⟨g, cap, cur, rfl, hbg, hg, hnc, hcm, hcs, htake⟩
  · have hl : l = [] := List.length_eq_zero_iff.1 hn
    subst hl
    obtain ⟨v2, w2, hr2, h5, _, _⟩ := Lib.run_append_own_string (P := Tryz.prog) W W.heap.size 61 9 ty 5 i0 Tryz.underlying61 Tryz.underlying9 hi0 hz0 hz1 hz2 (.slice none 0 0) 0 [] (World.ownsRow_nil _ _ _ _) s (by unfold maxLen; simp at hlen; omega) (by simp at hlen; omega) (Nat.le_refl _)
    rw [hr] at hr2
    injection hr2 with e1 e2
    subst e1
    intro g hg
    rcases h5.2 with ⟨rfl, hn2⟩ | ⟨g', cap, cur, rfl, hb, _⟩
    · cases hg
    · have e : g' = g := by simpa [Value.ownBlock] using hg
      exact Or.inr (e ▸ hb)
  · by_cases hroom : l.length + s.size ≤ cap
    · have hr2 := Lib.run_append_room_string (P := Tryz.prog) W 61 9 ty 5 i0 Tryz.underlying61 Tryz.underlying9 hi0 hz1 g l.length cap cur hg s hroom (by omega)
      rw [hr] at hr2
      injection hr2 with e1 e2
      intro g2 hg2
      rw [e1] at hg2
      exact Or.inl (by simpa [Value.ownBlock] using hg2)
    · have holds : ∀ (j : Nat) u, (Lib.byteCells l)[j]? = some u → W.cell? ((⟨g, 0, none⟩ : Addr).add j) = some u := World.ownsRow.cells h (g := g) rfl
      have hr2 := Lib.run_append_grow_string (P := Tryz.prog) W 61 9 ty 5 i0 (.int .u8 0) Tryz.underlying61 Tryz.underlying9 hi0 hz0 ⟨g, 0, none⟩ l.length cap (Lib.byteCells l) (by rw [hz1, Lib.byteCells_length]; omega) holds s (by omega) (by omega) (by rw [hz2]; exact growslice_fits (by omega) (by omega))
      rw [hr] at hr2
      injection hr2 with e1 e2
      intro g2 hg2
      rw [e1] at hg2
      have e : W.heap.size = g2 := by simpa [Value.ownBlock] using hg2
      exact Or.inr (Nat.le_of_eq e)
def Grew (l : List UInt8) (t : ByteArray) (v v' : Value) (W w' : World) : Prop := w'.ownsRow 8 5 1 v' (l ++ bs t).length (Lib.byteCells (l ++ bs t)) ∧ W.grownBy w' v.ownBlock ∧ (∀ g, v'.ownBlock = some g → v.ownBlock = some g ∨ W.heap.size ≤ g) ∧ (v' = .slice none 0 0 ↔ v = .slice none 0 0 ∧ t.size = 0)
theorem wpl_str3 {ops : Array Oper} {rest : List Oper} {o : Oper} {a : Act} {Q : Exit → Act → World → Prop} (hgd : o.guard = none) (s x : Operand) (ho : o.op = .call { callee := .builtin .append, args := #[s, x], argTypes := #[61, 9] }) (v : Value) (l : List UInt8) (t : ByteArray) (W : World)
    (h : W.ownsRow 8 5 1 v l.length (Lib.byteCells l)) (hB : 8 ≤ W.heap.size) (hs : a.eval s = v) (hx : a.eval x = .string t) (hlen : l.length + t.size ≤ 1000000000)
    (hK : ∀ v' w', Grew l t v v' W w' → wpList Tryz.prog ops Q rest (a.put o.dst v') w') : wpList Tryz.prog ops Q (o :: rest) a W := by
  refine wpList_plain hgd fun K hK2 => ?_
  obtain ⟨v', w', hr, h2, h3, h4, h5⟩ := append_where_str W v l t o.type h hB hlen
  unfold Oper.wp execOp
  simp only [ho, resolve, invoke, builtin, Sem.run_bind, Sem.run_pure, Result.andThen_ok, List.map_toArray, List.map_cons, List.map_nil, hs, hx, hr]
  exact hK2 _ _ (hK v' w' ⟨h2, h3, h4, h5⟩)

structure BA (b : Nat) (l : List UInt8) (v : Value) (w : World) : Prop where
  blk : w.heap[b]? = some (.cells #[.pointer none, v] 66 (0, 0)) ∨ w.heap[b]? = some (.cells #[.pointer (some ⟨b, 0, none⟩), v] 66 (0, 0))
  own : w.ownsRow 8 5 1 v l.length (Lib.byteCells l)
  nil : l = [] → v = .slice none 0 0
theorem BA.row {b : Nat} {l : List UInt8} {v : Value} {w : World} (h : BA b l v w) : ∀ g, v.ownBlock = some g → g ≠ b ∧ g < w.heap.size := by
  intro g hg
  obtain ⟨c, hc⟩ := owns_kind h.own g hg
  refine ⟨?_, (Array.getElem?_eq_some_iff.1 hc).1⟩
  rintro rfl
  rcases h.blk with hb | hb
  all_goals
    rw [hc] at hb
    injection hb with hb
    injection hb with h1 h2
    exact absurd h2 (by decide)
def Fb (b : Nat) (v : Value) (k : Nat) : Prop := k = b ∨ v.ownBlock = some k
set_option maxHeartbeats 2000000 in
set_option maxRecDepth 100000 in
theorem put_where (b : Nat) (l : List UInt8) (v : Value) (s : ByteArray) (w : World) (h : BA b l v w) (h6 : 8 ≤ w.heap.size) (hlen : l.length + s.size ≤ 1000000000) :
    Calls Tryz.prog 37 #[.pointer (some ⟨b, 0, none⟩), .string s] w fun e w' => e = .returned (.tuple #[.int .i64 s.size, .nilIface]) ∧ ∃ v', BA b (l ++ bs s) v' w' ∧ Fr (Fb b v) w w' ∧ (∀ g, v'.ownBlock = some g → v.ownBlock = some g ∨ w.heap.size ≤ g) := by
  have hchk : Hid (Calls Tryz.prog 53 #[.pointer (some ⟨b, 0, none⟩)] w fun e w1 => e = .returned (.tuple #[]) ∧ w1.heap[b]? = some (.cells #[.pointer (some ⟨b, 0, none⟩), v] 66 (0, 0)) ∧ w1.ownsRow 8 5 1 v l.length (Lib.byteCells l) ∧ Fr (Fb b v) w w1 ∧ w1.heap.size = w.heap.size) := by
    rcases h.blk with hb | hb
    · refine (check_fresh b w (by rw [Lib.cell_of_heap hb]; rfl) (by simp [World.shape?, hb]) (Lib.frozen_of_heap hb 0)).mono ?_
      rintro e w1 ⟨rfl, rfl⟩
      have hset : (w.setCell ⟨b, 0, none⟩ (.pointer (some ⟨b, 0, none⟩))).heap[b]? = some (.cells #[.pointer (some ⟨b, 0, none⟩), v] 66 (0, 0)) := by
        have e2 : (w.setCell ⟨b, 0, none⟩ (.pointer (some ⟨b, 0, none⟩))).heap[b]? = (w.heap[b]?).map (fun | .cells c elem frozen => .cells (if (none : Option Nat).isSome then c else c.setIfInBounds 0 (.pointer (some ⟨b, 0, none⟩))) elem frozen | o => o) := by
          show (w.heap.modify b _)[b]? = _
          rw [Array.getElem?_modify, if_pos rfl]
          rfl
        rw [e2, hb]; rfl
      refine ⟨rfl, hset, ⟨h.own.1, ?_⟩, (Fr.refl _ w).set _ (Or.inl (Or.inl rfl)) _, by simp [World.setCell]⟩
      rcases h.own.2 with x | ⟨g, cp, cur, x1, x2, x3, x4⟩
      · exact Or.inl x
      · exact Or.inr ⟨g, cp, cur, x1, x2, (Below.heap_setCell _ _ _ _ (h.row g (by rw [x1]; rfl)).1).trans x3, x4⟩
    · refine (check_used b w (by rw [Lib.cell_of_heap hb]; rfl)).mono ?_
      rintro e w1 ⟨rfl, rfl⟩
      exact ⟨rfl, hb, h.own, Fr.refl _ _, rfl⟩
  have hnil := h.nil
  have HN := hid_of h.nil
  clear h hnil
  go_enter Tryz.func37, Tryz.ntmps37
  go_wp2_with fail
  refine hchk.out.mono ?_
  rintro e w1 ⟨rfl, hbk, hown, hfr, hsz⟩
  have c0 : w1.cell? ⟨b, 0, none⟩ = some (.pointer (some ⟨b, 0, none⟩)) := by rw [Lib.cell_of_heap hbk]; rfl
  have c1 : w1.cell? ⟨b, 1, none⟩ = some v := by rw [Lib.cell_of_heap hbk]; rfl
  have HW := hid_of hown
  have HF := hid_of hfr
  have HK := hid_of hbk
  have HZ := hid_of hsz
  clear hown hfr hbk hsz
  go_wp2_with (at_builtin; refine wpl_str3 rfl _ _ rfl v l s w1 HW.out (by have := HZ.out; omega) rfl rfl hlen ?_)
  intro v' w2 hgrew
  have HX : Hid (Grew l s v v' w1 w2) := hgrew
  clear hgrew
  have hlt : b < w1.heap.size := (Array.getElem?_eq_some_iff.1 HK.out).1
  have hrow : some b ≠ v.ownBlock := by
    intro hx
    obtain ⟨c, hc⟩ := owns_kind HW.out b hx.symm
    have := HK.out
    rw [hc] at this
    injection this with this
    injection this with q1 q2
    exact absurd q2 (by decide)
  have hb2 : w2.heap[b]? = some (.cells #[.pointer (some ⟨b, 0, none⟩), v] 66 (0, 0)) := (HX.out.2.1.block b hlt hrow).trans HK.out
  have d0 : w2.cell? ⟨b, 0, none⟩ = some (.pointer (some ⟨b, 0, none⟩)) := by rw [Lib.cell_of_heap hb2]; rfl
  have d1 : w2.cell? ⟨b, 1, none⟩ = some v := by rw [Lib.cell_of_heap hb2]; rfl
  have f1 : w2.frozen? ⟨b, 1, none⟩ = false := Lib.frozen_of_heap hb2 1
  obtain ⟨ao, n', cp, rfl⟩ : ∃ ao n' cp, v' = .slice ao n' cp := by
    rcases HX.out.1.2 with ⟨hv, _⟩ | ⟨g, cp, cur, hv, _⟩
    · exact ⟨_, _, _, hv⟩
    · exact ⟨_, _, _, hv⟩
  have HB2 := hid_of hb2
  clear hb2 hrow hlt
  go_wp2
  go_ret2
  have hset : (w2.setCell ⟨b, 1, none⟩ (.slice ao n' cp)).heap[b]? = some (.cells #[.pointer (some ⟨b, 0, none⟩), .slice ao n' cp] 66 (0, 0)) := by
    have e2 : (w2.setCell ⟨b, 1, none⟩ (.slice ao n' cp)).heap[b]? = (w2.heap[b]?).map (fun | .cells c elem frozen => .cells (if (none : Option Nat).isSome then c else c.setIfInBounds 1 (.slice ao n' cp)) elem frozen | o => o) := by
      show (w2.heap.modify b _)[b]? = _
      rw [Array.getElem?_modify, if_pos rfl]
      rfl
    rw [e2, HB2.out]; rfl
  refine ⟨rfl, _, ⟨Or.inr hset, ⟨HX.out.1.1, ?_⟩, ?_⟩, ?_, ?_⟩
  · rcases HX.out.1.2 with x | ⟨g, cp', cur, x1, x2, x3, x4⟩
    · exact Or.inl x
    · refine Or.inr ⟨g, cp', cur, x1, x2, (Below.heap_setCell _ _ _ _ ?_).trans x3, x4⟩
      rintro rfl
      have := HB2.out
      rw [x3] at this
      injection this with this
      injection this with q1 q2
      exact absurd q2 (by decide)
  · intro hl
    have h1 : l = [] := (List.append_eq_nil_iff.1 hl).1
    have h2 : bs s = [] := (List.append_eq_nil_iff.1 hl).2
    exact HX.out.2.2.2.2 ⟨HN.out h1, by rw [← len_bs, h2]; rfl⟩
  · refine (HF.out.trans ⟨HX.out.2.1.os, HX.out.2.1.tape, HX.out.2.1.output, HX.out.2.1.size, fun k hk hn => HX.out.2.1.block k hk (fun hx => hn (Or.inr hx.symm))⟩).set _ (Or.inl (Or.inl rfl)) _
  · intro g hg
    exact (HX.out.2.2.1 g hg).elim Or.inl (fun q => Or.inr (by have := HZ.out; omega))
section
variable {ops : Array Oper} {o : Oper} {a : Act} {Q : Exit → Act → World → Prop}
theorem step_sd {E : Prop} {K : Act → World → Prop} (hg : o.guard = none) (x : Operand) (ho : o.op = .call { callee := .builtin .unsafeSliceData, args := #[x], argTypes := #[61] }) (v u : Value) (W : World) (hx : a.eval x = v)
    (hr : (Builtin.unsafeSliceData_ #[61] o.type #[v]).run Tryz.prog W = .ok u W) (hK : K (a.put o.dst u) W) : if Region.wanted o (yielded ops a.tmps) = true then Oper.wp Tryz.prog o a W K Q else E := by
  have hw : Region.wanted o (yielded ops a.tmps) = true := by simp [Region.wanted, hg]
  rw [if_pos hw]
  unfold Oper.wp execOp
  simp only [ho, resolve, invoke, builtin, Sem.run_bind, Sem.run_pure, Result.andThen_ok, List.map_toArray, List.map_cons, List.map_nil, hx, hr]
  exact hK
theorem step_us {E : Prop} {K : Act → World → Prop} (hg : o.guard = none) (x y : Operand) (ho : o.op = .call { callee := .builtin .unsafeString, args := #[x, y], argTypes := #[93, 3] }) (v n u : Value) (W W' : World) (hx : a.eval x = v) (hy : a.eval y = n)
    (hr : (Builtin.unsafeString_ #[93, 3] o.type #[v, n]).run Tryz.prog W = .ok u W') (hK : K (a.put o.dst u) W') : if Region.wanted o (yielded ops a.tmps) = true then Oper.wp Tryz.prog o a W K Q else E := by
  have hw : Region.wanted o (yielded ops a.tmps) = true := by simp [Region.wanted, hg]
  rw [if_pos hw]
  unfold Oper.wp execOp
  simp only [ho, resolve, invoke, builtin, Sem.run_bind, Sem.run_pure, Result.andThen_ok, List.map_toArray, List.map_cons, List.map_nil, hx, hy, hr]
  exact hK
end
theorem fr_freeze {F : Nat → Prop} {w w' : World} (h : Fr F w w') (g n : Nat) (hg : F g) : Fr F w (w'.freeze ⟨g, 0, none⟩ n) := by
  unfold World.freeze
  split
  · exact h
  · refine ⟨h.os, h.tape, h.output, by simpa using h.size, fun k hk hn => ?_⟩
    have hne : g ≠ k := fun e => hn (e ▸ hg)
    simp only [Array.getElem?_modify]
    rw [if_neg hne]
    exact h.block k hk hn
set_option maxHeartbeats 2000000 in
set_option maxRecDepth 100000 in
theorem string_row (b : Nat) (l : List UInt8) (v : Value) (w : World) (h : BA b l v w) (h0 : l ≠ []) (hlen : l.length ≤ 1000000000) :
    Calls Tryz.prog 38 #[.pointer (some ⟨b, 0, none⟩)] w fun e w' => e = .returned (.string ⟨l.toArray⟩) ∧ Fr (Fb b v) w w' := by
  have hl0 : l.length ≠ 0 := by simpa using h0
  obtain ⟨g, cap, cur, rfl, hbg, hg, hnc, hcm, hcs, htake⟩ : ∃ g cap cur, v = .slice (some ⟨g, 0, none⟩) l.length cap ∧ 8 ≤ g ∧ w.heap[g]? = some (.cells cur 5 (0, 0)) ∧ l.length ≤ cap ∧ cap ≤ maxLen ∧ cur.size = cap * 1 ∧ cur.toList.take (l.length * 1) = Lib.byteCells l := by
    rcases h.own.2 with ⟨_, hz⟩ | ⟨g, cap, cur, hv, r⟩
    · exact absurd hz hl0
    · exact ⟨g, cap, cur, hv, r⟩
  have c1 : w.drew.cell? ⟨b, 1, none⟩ = some (.slice (some ⟨g, 0, none⟩) l.length cap) := by
    rcases h.blk with hb | hb
    all_goals
      have hb' : w.drew.heap[b]? = _ := hb
      rw [Lib.cell_of_heap hb']; rfl
  have hSD : (Builtin.unsafeSliceData_ #[61] 93 #[.slice (some ⟨g, 0, none⟩) l.length cap]).run Tryz.prog w.drew = .ok (.pointer (some ⟨g, 0, none⟩)) w.drew :=
    Lib.run_unsafeSliceData_row _ _ _ _ _ _ (by omega)
  have hUS : (Builtin.unsafeString_ #[93, 3] 9 #[.pointer (some ⟨g, 0, none⟩), .int .i64 l.length]).run Tryz.prog w.drew = .ok (.string ⟨l.toArray⟩) (w.drew.freeze ⟨g, 0, none⟩ l.length) := by
    refine Lib.run_unsafeString_row w.drew 93 3 9 5 Tryz.underlying93 (by kernel_rfl) g cur.size (by have hg' : w.drew.heap[g]? = some (.cells cur 5 (0, 0)) := hg; simp [World.shape?, hg']) l h0 (by omega) (by omega) ?_
    intro j x hx
    exact World.ownsRow.cells h.own (g := g) rfl j (.int .u8 x.toNat) (by simp [Lib.byteCells, hx])
  have HF : Hid (Fr (Fb b (.slice (some ⟨g, 0, none⟩) l.length cap)) w (w.drew.freeze ⟨g, 0, none⟩ l.length)) := fr_freeze (Fr.refl _ w).drew g _ (Or.inr rfl)
  have HSD := hid_of hSD
  have HUS := hid_of hUS
  clear h hbg hg hcs htake hnc hcm hSD hUS
  go_enter Tryz.func38, Tryz.ntmps38
  go_wp2
  go_region_law (first
    | (refine step_sd rfl (.tmp 6) rfl (.slice (some ⟨g, 0, none⟩) l.length cap) (.pointer (some ⟨g, 0, none⟩)) w.drew (by first | (simp [Act.eval]; done) | simp [Act.eval, Act.put]) HSD.out ?_)
    | (refine step_us rfl (.tmp 7) (.tmp 12) rfl (.pointer (some ⟨g, 0, none⟩)) (.int .i64 l.length) (.string ⟨l.toArray⟩) w.drew (w.drew.freeze ⟨g, 0, none⟩ l.length) (by first | (simp [Act.eval]; done) | simp [Act.eval, Act.put]) (by first | (simp [Act.eval]; done) | simp [Act.eval, Act.put]) HUS.out ?_))
  all_goals (go_wp2; go_ret; exact ⟨rfl, HF.out⟩)
set_option maxHeartbeats 2000000 in
set_option maxRecDepth 100000 in
theorem string_nil (b : Nat) (w : World) (h : BA b [] (.slice none 0 0) w) :
    Calls Tryz.prog 38 #[.pointer (some ⟨b, 0, none⟩)] w fun e w' => e = .returned (.string ⟨#[]⟩) ∧ Fr (Fb b (.slice none 0 0)) w w' := by
  have hUS := Any.unsafeString_none Tryz.lays169 Tryz.Builder_Extra_169
  have c1 : w.drew.cell? ⟨b, 1, none⟩ = some (.slice none 0 0) := by
    rcases h.blk with hb | hb
    all_goals
      have hb' : w.drew.heap[b]? = _ := hb
      rw [Lib.cell_of_heap hb']; rfl
  have hSD : (Builtin.unsafeSliceData_ #[61] 93 #[.slice none 0 0]).run Tryz.prog w.drew = .ok (.pointer none) w.drew := rfl
  have HF : Hid (Fr (Fb b (.slice none 0 0)) w w.drew) := (Fr.refl _ w).drew
  have HSD := hid_of hSD
  have HUS : Hid ((Builtin.unsafeString_ #[93, 3] 9 #[.pointer none, .int .i64 0]).run Tryz.prog w.drew = .ok (.string .empty) w.drew) := hUS _ _
  clear h hSD hUS
  go_enter Tryz.func38, Tryz.ntmps38
  go_wp2
  go_region_law (first
    | (refine step_sd rfl (.tmp 6) rfl (.slice none 0 0) (.pointer none) w.drew (by first | (simp [Act.eval]; done) | simp [Act.eval, Act.put]) HSD.out ?_)
    | (refine step_us rfl (.tmp 7) (.tmp 12) rfl (.pointer none) (.int .i64 0) (.string .empty) w.drew w.drew (by first | (simp [Act.eval]; done) | simp [Act.eval, Act.put]) (by first | (simp [Act.eval]; done) | simp [Act.eval, Act.put]) HUS.out ?_))
  all_goals (go_wp2; go_ret; exact ⟨rfl, HF.out⟩)
theorem string_where (b : Nat) (l : List UInt8) (v : Value) (w : World) (h : BA b l v w) (hlen : l.length ≤ 1000000000) :
    Calls Tryz.prog 38 #[.pointer (some ⟨b, 0, none⟩)] w fun e w' => e = .returned (.string ⟨l.toArray⟩) ∧ Fr (Fb b v) w w' := by
  by_cases h0 : l = []
  · subst h0
    have e := h.nil rfl
    subst e
    exact string_nil b w h
  · exact string_row b l v w h h0 hlen
end Go.Proofs.YtfkilbhhpipjbaaGreatDoor.Build
