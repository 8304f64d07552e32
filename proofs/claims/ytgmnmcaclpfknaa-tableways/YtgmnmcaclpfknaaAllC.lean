/- All, walked. -/
import Derived.Test.YtgmnmcaclpfknaaSortC
import Derived.Stop.RegionWithIn
namespace Go.Proofs.Ytgmnmcaclpfknaa.AllC
open Go.RowKit
open Go.Proofs.Ytgmnmcaclpfknaa.Tab
open Go.Proofs.Ytgmnmcaclpfknaa.Base
open Go.Proofs.Ytgmnmcaclpfknaa.Sect
open Go.Proofs.Ytgmnmcaclpfknaa.Range
open Go.Proofs.Ytgmnmcaclpfknaa.Thr
open Go.Proofs.Ytgmnmcaclpfknaa.IterR
open Go.Proofs.Ytgmnmcaclpfknaa.AllP
open Go.Proofs.Ytgmnmcaclpfknaa.FindP (spec_call noSc)
open Go.Proofs.Ytgmnmcaclpfknaa.SortC (OS sort_call)
open Go.Proofs.Ytgmnmcaclpfknaa.RowsL (valS cellsS)
attribute [local go_sem] Oper.semAt_some
set_option linter.unusedVariables false
set_option linter.unusedSimpArgs false
/- a post that no panic meets -/
def calm (Q : Exit → Act → World → Prop) : Exit → Act → World → Prop
  | .normal, a, w => Q .normal a w
  | _, _, _ => False
theorem calm_le (Q : Exit → Act → World → Prop) : ∀ e a w, calm Q e a w → Q e a w
  | .normal, _, _, h => h
theorem os_put {W : World} {B D : Nat} {v : Value} {l : List Sc} (o' : Obj) (h : OS B W v l) (hd : W.heap[D]? = some (.deferred (some []))) : OS B (W.putObj D o') v l :=
  own_keep h fun k cs fz e => (World.putObj_heap_other (by rintro rfl; rw [hd] at e; cases e)).trans e
theorem stepi_app {F : Fence} {n : Nat} {ops : Array Oper} {o : Oper} {a : Act} {K : Act → World → Prop} {Q : Exit → Act → World → Prop} {E : Prop} (hgd : o.guard = none) (s x : Operand) (t : TypeId) (hop : o.op = .call { callee := .builtin .append, args := #[s, x], argTypes := #[t, t] }) (v u v' : Value) (W W' : World) (hs : a.eval s = v) (hx : a.eval x = u)
    (hr : (Builtin.append_ #[t, t] o.type #[v, u]).run Try.prog W = .ok v' W') (hK : K (a.put o.dst v') W') : if Region.wanted o (yielded ops a.tmps) = true then Oper.wpIn F n Try.prog o a W K Q else E := by
  have hw : Region.wanted o (yielded ops a.tmps) = true := by simp [Region.wanted, hgd]
  rw [if_pos hw]
  unfold Oper.wpIn
  refine ⟨?_, ?_⟩
  · simp [Oper.about, hop, resolve, Target.leads, Sem.run_pure]
  · rw [Oper.semAt_plain F _ _ (by rw [hop]; intro c hc'; cases hc')]
    simp [execOp, hop, resolve, invoke, builtin, hs, hx, hr, Result.andThen]
    exact hK
set_option maxHeartbeats 4000000 in
set_option maxRecDepth 100000 in
theorem all_call (w : World) : Calls Try.prog 13 #[] w fun e w' => ∃ v, e = .returned v ∧ OS w.heap.size w' v docRows ∧ Below w.heap.size w w' := by
  refine (callsIn_wide (n := 5)).1 ?_
  refine callsIn_of_wp_marks Try.func13 rfl trivial ?_ rfl
  simp only [Try.ntmps13, List.size_toArray, List.length_cons, List.length_nil, Nat.reduceAdd, Nat.reduceSub, Array.replicate_succ, Array.replicate_zero, List.push_toArray, List.append_toArray, List.nil_append, List.cons_append]
  gi_wp2_with fail
  obtain ⟨T, hT⟩ : ∃ T, T = w.heap.size := ⟨_, rfl⟩
  obtain ⟨w2, hw2⟩ : ∃ w2, w2 = w.alloc (.cells #[.slice none 0 0] 29) := ⟨_, rfl⟩
  have z2 : w2.heap.size = T + 1 := by rw [hw2, hT]; simp
  have hP : AI w T [] w2 := by
    have b2 : Below w.heap.size w w2 := by rw [hw2]; exact (Below.refl _ w).alloc (Nat.le_refl _) _
    exact ⟨b2, by omega, by omega, .slice none 0 0, by rw [hw2, hT]; exact heap_alloc_new w _, World.ownsRow_nil _ _ _ _⟩
  have HP := hid_of hP
  have HZ := hid_of z2
  have HT := hid_of hT
  rw [← hw2, ← hT]
  clear hP z2 hT hw2
  apply range_own (n := 5) (P := Try.prog) (w := w2) (by decide) (gf := 21) (lb := #[]) rfl (enters_of Try.func21 (by kernel_rfl) rfl) (Kp := Kp) (R := Gw) (encs := fun x : Rw => #[valR x]) (S := fun xs => xs = allRows) (Sp := fun pre => pre <+: allRows) (N := 118) (w0 := w2)
    (I := fun pre W => AI w T (pre.map spec) W)
    (Ix := fun cd pre W => False)
    (A := fun x W => W.alloc (.cells #[.string (mk x.name), .int .i64 x.arity, .int .i64 x.part, .int .i64 x.first, .int .i64 x.last, .int .i64 x.step] 42))
  case hassign =>
    intro lp x W K hK
    unfold valR cellsR
    gi_wp2_with fail
    exact hK
  case hseq => exact rows_seq 4 w2
  case hb0 => exact Below.refl _ _
  case hps => exact fun _ => rfl
  case hRo => exact fun B A A' k o hr hk ho => (Below.block hr k (Array.getElem?_eq_some_iff.1 hk).1).trans hk
  case hKt => exact fun h k => h.trans k
  case hKb =>
    intro W k o o' hk ho hc
    refine ⟨by simp [World.putObj], fun j cs fz e => World.putObj_heap_other ?_⟩
    rintro rfl; rw [ho] at e; cases e; cases hc
  case hI => rw [HZ.out]; exact fun pre W W' row h hg hr => AI.grown h hg hr
  case hIx => exact fun cd pre W W' row h _ _ => h
  case hIR => exact fun pre A A' h hr => AI.below h hr
  case hIxR => exact fun cd pre A A' h hr => h
  case h0 => exact HP.out
  case hA => exact fun x W => (Below.refl _ W).alloc (Nat.le_refl _) _
  case hAI => exact fun pre x W h => AI.below h ((Below.refl _ W).alloc (Nat.le_refl _) _)
  case hAK => exact fun pre x W h => Kp.of_below ((Below.refl _ W).alloc (Nat.le_refl _) _)
  case hbody =>
    rintro lp pre x W V hWs hF hpl hVs hV
    have hE : V.heap[W.heap.size]? = some (.cells #[.string (mk x.name), .int .i64 x.arity, .int .i64 x.part, .int .i64 x.first, .int .i64 x.last, .int .i64 x.step] 42 (0, 0)) := (hV _ (Nat.le_refl _)).trans (heap_alloc_new W _)
    obtain ⟨E, hEE⟩ : ∃ E, E = W.heap.size := ⟨_, rfl⟩
    rw [← hEE] at hE ⊢
    have e0 : V.cell? ⟨E, 0, none⟩ = some (.string (mk x.name)) := Lib.cell_of_heap hE 0
    have e1 : V.cell? ⟨E, 1, none⟩ = some (.int .i64 x.arity) := Lib.cell_of_heap hE 1
    have e2 : V.cell? ⟨E, 2, none⟩ = some (.int .i64 x.part) := Lib.cell_of_heap hE 2
    have e3 : V.cell? ⟨E, 3, none⟩ = some (.int .i64 x.first) := Lib.cell_of_heap hE 3
    have e4 : V.cell? ⟨E, 4, none⟩ = some (.int .i64 x.last) := Lib.cell_of_heap hE 4
    have e5 : V.cell? ⟨E, 5, none⟩ = some (.int .i64 x.step) := Lib.cell_of_heap hE 5
    obtain ⟨vg, hv1, hv2⟩ := hF.row
    have ct : V.cell? ⟨T, 0, none⟩ = some vg := Lib.cell_of_heap hv1 0
    have hpn : (pre.map spec).length < 1000000 := by rw [List.length_map]; omega
    have HCall : Hid (∀ m, CallsIn (Fence.wide.inRound lp) m Try.prog 22 #[.agg #[.string (mk x.name), .int .i64 x.arity, .int .i64 x.part, .int .i64 x.first, .int .i64 x.last, .int .i64 x.step]] V.drew fun e w5 => e = .returned (.agg #[.string (mk x.name), .int .i64 (spec x).arity, .bool (spec x).wr, .bool (spec x).ct, .int .i64 (spec x).first, .int .i64 (spec x).last, .int .i64 (spec x).step]) ∧ Below V.heap.size V w5 ∧ ∃ (va : Option Addr) (vn vc : Nat) (w6 : World), (Builtin.append_ #[29, 29] 29 #[vg, .slice (some ⟨w5.heap.size, 0, none⟩) 1 1]).run Try.prog (w5.alloc (.cells #[.string (mk x.name), .int .i64 (spec x).arity, .bool (spec x).wr, .bool (spec x).ct, .int .i64 (spec x).first, .int .i64 (spec x).last, .int .i64 (spec x).step] 23)) = .ok (.slice va vn vc) w6 ∧ (AI w T ((pre ++ [x]).map spec) (w6.setCell ⟨T, 0, none⟩ (.slice va vn vc)) ∧ KeepsFrom (T + 1) V (w6.setCell ⟨T, 0, none⟩ (.slice va vn vc)) ∧ Kp V (w6.setCell ⟨T, 0, none⟩ (.slice va vn vc)) ∧ w6.heap[T]? = some (.cells #[vg] 29 (0, 0)))) := hid_of fun m => by
      refine (CallsIn.inRound lp (callsIn_wide.2 (spec_call x V.drew))).mono ?_
      rintro e w5 ⟨rfl, b5'⟩
      have b5 : Below V.heap.size V w5 := ⟨b5'.os, b5'.tape, b5'.output, b5'.size, b5'.block⟩
      obtain ⟨v', w6, hr, ho, hg⟩ := app7 (spec x) (w := w5) (AllP.own_keep hv2 fun k cs fz e => (b5.block k (lt_of e)).trans e) (Nat.le_trans hF.bel.size b5.size) hpn
      obtain ⟨va, vc, rfl⟩ : ∃ va vc, v' = .slice va (pre.map spec ++ [spec x]).length vc := by
        rcases ho.2 with ⟨rfl, e⟩ | ⟨g, cap, cur, e, _⟩
        · exact ⟨none, 0, by rw [e]⟩
        · exact ⟨_, cap, e⟩
      refine ⟨rfl, b5, va, _, vc, w6, hr, ?_⟩
      have := hF.step (spec x) hv1 hv2 b5 ho hg
      rw [List.map_append]
      exact this
    clear hE hV hVs hEE hWs hv1 hv2 hpn hF
    generalize mk x.name = X at *
    gi_wp2_with fail
    refine Code.wpIn_mono (calm_le _) ?_
    refine wpIn_region_any (by kernel_rfl) ?_
    change wpAnyIn _ _ _ _ _ _ _ _ _ (World.drew _)
    refine wpAnyIn_ready (rs := [0, 1]) (by kernel_rfl) (by simp) ?_
    refine AllReadyIn.cons rfl (fun K hK => ?_) (AllReadyIn.cons rfl (fun K hK => ?_) (AllReadyIn.nil))
    · go_simp
      refine hK _ _ ?_
      clear hK K
      refine wpAnyIn_ready (rs := [1]) (by kernel_rfl) (by simp) ?_
      refine AllReadyIn.cons rfl (fun K hK => ?_) (AllReadyIn.nil)
      · go_simp
        refine hK _ _ ?_
        clear hK K
        refine wpAnyIn_ready (rs := [2]) (by kernel_rfl) (by simp) ?_
        refine AllReadyIn.cons rfl (fun K hK => ?_) (AllReadyIn.nil)
        · go_simp
          refine ⟨trivial, (HCall.out _).mono ?_⟩
          rintro e w5 hw5
          obtain ⟨rfl, b5, va, vn, vc, w6, hr, hfin⟩ := hw5
          refine hK _ _ ?_
          clear hK K
          refine wpAnyIn_ready (rs := [3]) (by kernel_rfl) (by simp) ?_
          refine AllReadyIn.cons rfl (fun K hK => ?_) (AllReadyIn.nil)
          · go_simp
            refine hK _ _ ?_
            clear hK K
            refine wpAnyIn_ready (rs := [4]) (by kernel_rfl) (by simp) ?_
            refine AllReadyIn.cons rfl (fun K hK => ?_) (AllReadyIn.nil)
            · refine stepi_app rfl _ _ 29 rfl vg (.slice (some ⟨w5.heap.size, 0, none⟩) 1 1) (.slice va vn vc) _ w6 rfl rfl hr (hK _ _ ?_)
              clear hK K
              refine wpAnyIn_ready (rs := [5]) (by kernel_rfl) (by simp) ?_
              refine AllReadyIn.cons rfl (fun K hK => ?_) (AllReadyIn.nil)
              · have c6 : w6.cell? ⟨T, 0, none⟩ = some vg := Lib.cell_of_heap hfin.2.2.2 0
                have f6 : w6.frozen? ⟨T, 0, none⟩ = false := Lib.frozen_of_heap hfin.2.2.2 0
                go_simp
                refine hK _ _ ?_
                clear hK K
                refine wpAnyIn_done (by kernel_rfl) ?_ _
                exact ⟨by rw [HZ.out]; exact hfin.2.1, hfin.2.2.1, hfin.1⟩
    · go_simp
      refine hK _ _ ?_
      clear hK K
      refine wpAnyIn_ready (rs := [0, 2]) (by kernel_rfl) (by simp) ?_
      refine AllReadyIn.cons rfl (fun K hK => ?_) (AllReadyIn.cons rfl (fun K hK => ?_) (AllReadyIn.nil))
      · go_simp
        refine hK _ _ ?_
        clear hK K
        refine wpAnyIn_ready (rs := [2]) (by kernel_rfl) (by simp) ?_
        refine AllReadyIn.cons rfl (fun K hK => ?_) (AllReadyIn.nil)
        · go_simp
          refine ⟨trivial, (HCall.out _).mono ?_⟩
          rintro e w5 hw5
          obtain ⟨rfl, b5, va, vn, vc, w6, hr, hfin⟩ := hw5
          refine hK _ _ ?_
          clear hK K
          refine wpAnyIn_ready (rs := [3]) (by kernel_rfl) (by simp) ?_
          refine AllReadyIn.cons rfl (fun K hK => ?_) (AllReadyIn.nil)
          · go_simp
            refine hK _ _ ?_
            clear hK K
            refine wpAnyIn_ready (rs := [4]) (by kernel_rfl) (by simp) ?_
            refine AllReadyIn.cons rfl (fun K hK => ?_) (AllReadyIn.nil)
            · refine stepi_app rfl _ _ 29 rfl vg (.slice (some ⟨w5.heap.size, 0, none⟩) 1 1) (.slice va vn vc) _ w6 rfl rfl hr (hK _ _ ?_)
              clear hK K
              refine wpAnyIn_ready (rs := [5]) (by kernel_rfl) (by simp) ?_
              refine AllReadyIn.cons rfl (fun K hK => ?_) (AllReadyIn.nil)
              · have c6 : w6.cell? ⟨T, 0, none⟩ = some vg := Lib.cell_of_heap hfin.2.2.2 0
                have f6 : w6.frozen? ⟨T, 0, none⟩ = false := Lib.frozen_of_heap hfin.2.2.2 0
                go_simp
                refine hK _ _ ?_
                clear hK K
                refine wpAnyIn_done (by kernel_rfl) ?_ _
                exact ⟨by rw [HZ.out]; exact hfin.2.1, hfin.2.2.1, hfin.1⟩
      · go_simp
        refine ⟨trivial, (HCall.out _).mono ?_⟩
        rintro e w5 hw5
        obtain ⟨rfl, b5, va, vn, vc, w6, hr, hfin⟩ := hw5
        refine hK _ _ ?_
        clear hK K
        refine wpAnyIn_ready (rs := [0, 3]) (by kernel_rfl) (by simp) ?_
        refine AllReadyIn.cons rfl (fun K hK => ?_) (AllReadyIn.cons rfl (fun K hK => ?_) (AllReadyIn.nil))
        · have ct5 : w5.cell? ⟨T, 0, none⟩ = some vg := (b5.cell (p := ⟨T, 0, none⟩) (cell_lt ct)).trans ct
          have ct7 : (w5.alloc (.cells #[.string X, .int .i64 (spec x).arity, .bool (spec x).wr, .bool (spec x).ct, .int .i64 (spec x).first, .int .i64 (spec x).last, .int .i64 (spec x).step] 23)).cell? ⟨T, 0, none⟩ = some vg := (((Below.refl _ w5).alloc (Nat.le_refl _) _).cell (p := ⟨T, 0, none⟩) (cell_lt ct5)).trans ct5
          go_simp
          refine hK _ _ ?_
          clear hK K
          refine wpAnyIn_ready (rs := [3]) (by kernel_rfl) (by simp) ?_
          refine AllReadyIn.cons rfl (fun K hK => ?_) (AllReadyIn.nil)
          · go_simp
            refine hK _ _ ?_
            clear hK K
            refine wpAnyIn_ready (rs := [4]) (by kernel_rfl) (by simp) ?_
            refine AllReadyIn.cons rfl (fun K hK => ?_) (AllReadyIn.nil)
            · refine stepi_app rfl _ _ 29 rfl vg (.slice (some ⟨w5.heap.size, 0, none⟩) 1 1) (.slice va vn vc) _ w6 rfl rfl hr (hK _ _ ?_)
              clear hK K
              refine wpAnyIn_ready (rs := [5]) (by kernel_rfl) (by simp) ?_
              refine AllReadyIn.cons rfl (fun K hK => ?_) (AllReadyIn.nil)
              · have c6 : w6.cell? ⟨T, 0, none⟩ = some vg := Lib.cell_of_heap hfin.2.2.2 0
                have f6 : w6.frozen? ⟨T, 0, none⟩ = false := Lib.frozen_of_heap hfin.2.2.2 0
                go_simp
                refine hK _ _ ?_
                clear hK K
                refine wpAnyIn_done (by kernel_rfl) ?_ _
                exact ⟨by rw [HZ.out]; exact hfin.2.1, hfin.2.2.1, hfin.1⟩
        · go_simp
          refine hK _ _ ?_
          clear hK K
          refine wpAnyIn_ready (rs := [0]) (by kernel_rfl) (by simp) ?_
          refine AllReadyIn.cons rfl (fun K hK => ?_) (AllReadyIn.nil)
          · have ct5 : w5.cell? ⟨T, 0, none⟩ = some vg := (b5.cell (p := ⟨T, 0, none⟩) (cell_lt ct)).trans ct
            have ct7 : (w5.alloc (.cells #[.string X, .int .i64 (spec x).arity, .bool (spec x).wr, .bool (spec x).ct, .int .i64 (spec x).first, .int .i64 (spec x).last, .int .i64 (spec x).step] 23)).cell? ⟨T, 0, none⟩ = some vg := (((Below.refl _ w5).alloc (Nat.le_refl _) _).cell (p := ⟨T, 0, none⟩) (cell_lt ct5)).trans ct5
            go_simp
            refine hK _ _ ?_
            clear hK K
            refine wpAnyIn_ready (rs := [4]) (by kernel_rfl) (by simp) ?_
            refine AllReadyIn.cons rfl (fun K hK => ?_) (AllReadyIn.nil)
            · refine stepi_app rfl _ _ 29 rfl vg (.slice (some ⟨w5.heap.size, 0, none⟩) 1 1) (.slice va vn vc) _ w6 rfl rfl hr (hK _ _ ?_)
              clear hK K
              refine wpAnyIn_ready (rs := [5]) (by kernel_rfl) (by simp) ?_
              refine AllReadyIn.cons rfl (fun K hK => ?_) (AllReadyIn.nil)
              · have c6 : w6.cell? ⟨T, 0, none⟩ = some vg := Lib.cell_of_heap hfin.2.2.2 0
                have f6 : w6.frozen? ⟨T, 0, none⟩ = false := Lib.frozen_of_heap hfin.2.2.2 0
                go_simp
                refine hK _ _ ?_
                clear hK K
                refine wpAnyIn_done (by kernel_rfl) ?_ _
                exact ⟨by rw [HZ.out]; exact hfin.2.1, hfin.2.2.1, hfin.1⟩
  case' hdone =>
    rintro D xs W hD hxs hF hdf
    subst hxs
    obtain ⟨vg, hv1, hv2⟩ := hF.row
    have ct : W.cell? ⟨T, 0, none⟩ = some vg := Lib.cell_of_heap hv1 0
    obtain ⟨va, vc, rfl⟩ : ∃ va vc, vg = .slice va (allRows.map spec).length vc := by
      rcases hv2.2 with ⟨rfl, e⟩ | ⟨g, cap, cur, e, _⟩
      · exact ⟨none, 0, by rw [e]⟩
      · exact ⟨_, cap, e⟩
    have HS : Hid (Calls Try.prog 23 #[.slice va (allRows.map spec).length vc, .func (.func 24) #[] #[]] W fun e w' => e = .returned (.tuple #[]) ∧ OS w.heap.size w' (.slice va (allRows.map spec).length vc) docRows ∧ Below w.heap.size w w' ∧ w'.heap[T]? = some (.cells #[.slice va (allRows.map spec).length vc] 29 (0, 0)) ∧ w'.heap[D]? = some (.deferred (some []))) := hid_of (by
      refine (sort_call hv2 hF.bel.size).mono ?_
      rintro e w' ⟨h1, h2, h3, h4⟩
      have hne : ∀ (k : Nat) (o : Obj), W.heap[k]? = some o → (∀ cs fz, o ≠ Obj.cells cs 23 fz) → w'.heap[k]? = some o := fun k o hk ho => by
        refine (h4.block k (lt_of hk) (fun e => ?_)).trans hk
        rcases hv2.2 with ⟨e', _⟩ | ⟨g', cap, cur, e', hb, hg', _⟩
        · rw [e'] at e; cases e
        · rw [e'] at e
          have : g' = k := by simpa [Value.ownBlock] using e.symm
          subst this
          rw [hk] at hg'
          injection hg' with hg'
          exact ho _ _ hg'
      exact ⟨h1, h2, hF.bel.trans h3, hne T _ hv1 (fun cs fz e => by injection e with _ e; cases e), hne D _ hdf (fun cs fz e => by cases e)⟩)
    have HD := hid_of (show w.heap.size ≤ D from by have := HZ.out; have := HT.out; omega)
    clear hv1 hv2 hF hdf hD
    generalize (allRows.map spec).length = N at *
    gi_wp2_with fail
    refine ⟨trivial, callsIn_wide.2 (HS.out.mono ?_)⟩
    rintro e w7 ⟨rfl, ho, hb, ht, hd⟩
    have c7 : w7.cell? ⟨T, 0, none⟩ = some (.slice va N vc) := Lib.cell_of_heap ht 0
    have H7 := hid_of (And.intro ho (And.intro hb hd))
    clear ho hb ht hd
    gi_wp2_with fail
    refine ⟨by simp, .inl ⟨_, _, rfl, run_takeDeferred H7.out.2.2, ?_⟩⟩
    exact ⟨.slice va N vc, by kernel_rfl, ⟨.slice va N vc, rfl, os_put _ H7.out.1 H7.out.2.2, H7.out.2.1.grown (grownBy_putObj' _ D (.deferred none)) H7.out.2.1.size (fun j hj => by cases hj; exact HD.out)⟩⟩
  case' hstop =>
    rintro D cd pre W hD hpre hF hdf
    exact hF.elim
end Go.Proofs.Ytgmnmcaclpfknaa.AllC
