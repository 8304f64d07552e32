/- walked: all that goes over an index tells; entries: two lists, one by one. -/
import Derived.Test.YtiaggddpoddbcaaSeqA
import Derived.Test.YtiaggddpoddbcaaLikeU
namespace Go.Proofs.Ytiaggddpoddbcaa.Walk
open Go.RowKit Go.Maps Go.Shelf
attribute [local go_sem] Oper.semAt_some
open Go.Proofs.Ytiaggddpoddbcaa.HeapMath
open Go.Proofs.Ytiaggddpoddbcaa.Heap
open Go.Proofs.Ytiaggddpoddbcaa.Turn
open Go.Proofs.Ytiaggddpoddbcaa.Before
open Go.Proofs.Ytiaggddpoddbcaa.RowB
open Go.Proofs.Ytiaggddpoddbcaa.Edge
open Go.Proofs.Ytiaggddpoddbcaa.IndexS
open Go.Proofs.Ytiaggddpoddbcaa.Range
open Go.Proofs.Ytiaggddpoddbcaa.Peek
open Go.Proofs.Ytiaggddpoddbcaa.Take
open Go.Proofs.Ytiaggddpoddbcaa.Col
open Go.Proofs.Ytiaggddpoddbcaa.SeqA
set_option linter.unusedVariables false
set_option linter.unusedSimpArgs false
theorem info62 : (Try.prog.info? 62).map (fun i => (i.zero, i.size, i.bytes)) = some (some (.agg #[.string ⟨#[]⟩, .int .i64 0]), 2, 24) := by kernel_rfl
theorem eq_nilF (w : World) (B : Nat) : (binOp .eql 59 (.func (.func 44) #[] #[.pointer (some ⟨B, 0, none⟩)]) .nilFunc).run Try.prog w = .ok (.bool false) w := by kernel_rfl
set_option maxHeartbeats 4000000 in
set_option maxRecDepth 100000 in
theorem walked_call {base b : Nat} {s S : Es} {w : World} (h : IX base b w s) (hS : Sorted ltS s S) (hlen : s.length + 1 < 1099511627776) :
    Calls Try.prog 13 #[ptr b] w fun e w' => ∃ v, e = .returned v ∧ w'.ownsRow w.heap.size 62 2 v S.length (S.flatMap cS) ∧ Below w.heap.size w w' := by
  have hSl : S.length < 1099511627776 := by have := hS.perm.length_eq; omega
  obtain ⟨w1, hw1⟩ : ∃ w1, w1 = w.alloc (.cells #[.slice none 0 0] 26) := ⟨_, rfl⟩
  have b1 : Below w.heap.size w w1 := by rw [hw1]; exact (Below.refl _ w).alloc (Nat.le_refl _) _
  have x1 : w1.heap[w.heap.size]? = some (.cells #[.slice none 0 0] 26 (0, 0)) := by rw [hw1]; exact heap_alloc_new w _
  have HAll := hid_of (AllS.all_call (ix_below h b1) hS hlen)
  obtain ⟨T, hT⟩ : ∃ T, T = w.heap.size := ⟨_, rfl⟩
  have HW1 := hid_of hw1
  have H1 := hid_of (And.intro b1 x1)
  have HT := hid_of hT
  have HSl := hid_of hSl
  have hnf := eq_nilF
  clear hw1 b1 x1 h hS hlen hSl
  unfold ptr at *
  refine (callsIn_wide (n := 5)).1 ?_
  refine callsIn_of_wp_marks Try.func13 rfl trivial ?_ rfl
  simp only [Try.ntmps13, List.size_toArray, List.length_cons, List.length_nil, Nat.reduceAdd, Nat.reduceSub, Array.replicate_succ, Array.replicate_zero, List.push_toArray, List.append_toArray, List.nil_append, List.cons_append]
  gi_wp2_with fail
  rw [← HW1.out]
  refine ⟨trivial, callsIn_wide.2 (HAll.out.mono ?_)⟩
  rintro e w2 ⟨q, v, rfl, hq0, hq, hrow, b2⟩
  obtain ⟨va, vc, rfl⟩ := Push.shape hrow
  rw [← hT]
  have hs1 : w1.heap.size = T + 1 := by rw [HW1.out, hT]; simp
  have hx2 : w2.heap[T]? = some (.cells #[.slice none 0 0] 26 (0, 0)) := (b2.block T (by omega)).trans (by rw [hT]; exact H1.out.2)
  obtain ⟨G, hG⟩ : ∃ G : Nat → Prop, G = fun g => (Value.slice va S.length vc).ownBlock = some g := ⟨_, rfl⟩
  have HGG : Hid (∀ g, G g → g < w2.heap.size ∧ T < g ∧ ∃ cs fz, w2.heap[g]? = some (.cells cs 96 fz)) := hid_of fun g hg => by
    rw [hG] at hg
    have h1 := hrow.lt g hg
    refine ⟨h1.2, by omega, ?_⟩
    rcases hrow.2 with ⟨e, _⟩ | ⟨g', cap, cur, e, hb, hh, _⟩
    · rw [e] at hg; cases hg
    · rw [e] at hg
      injection hg with hg
      have : g' = g := hg
      subst this
      exact ⟨_, _, hh⟩
  have HSeq := hid_of (all_seq (n := 4) HSl.out hq hrow (G := G) (fun g hg => by rw [hG]; exact hg))
  have HP : Hid (QI 26 62 w w2.heap.size T [] w2 ∧ ∀ g, G g → w2.heap[g]? = w2.heap[g]?) := hid_of ⟨⟨H1.out.1.trans (b2.mono H1.out.1.size), Nat.le_refl _, lt_of hx2, by omega, _, hx2, World.ownsRow_nil _ _ _ _⟩, fun _ _ => rfl⟩
  have hTl : T < w2.heap.size := lt_of hx2
  clear hq hrow b2 hx2 hG HAll hT
  gi_wp2_with fail
  apply range_own (n := 5) (P := Try.prog) (w := w2) (by decide) (gf := 44) (lb := #[.pointer (some ⟨q, 0, none⟩)]) rfl (enters_of Try.func44 (by kernel_rfl) rfl) (Kp := Kg G) (R := Rb) (encs := encE) (S := fun xs => xs = S) (Sp := fun pre => pre <+: S) (N := S.length) (w0 := w2)
    (I := fun pre W => QI 26 62 w w2.heap.size T pre W ∧ ∀ g, G g → W.heap[g]? = w2.heap[g]?)
    (Ix := fun cd pre W => False)
    (A := fun x W => W)
  case hassign =>
    intro lp x W K hK
    unfold encE
    gi_wp2_with fail
    exact hK
  case hseq => exact HSeq.out
  case hb0 => exact Below.refl _ _
  case hps => exact fun _ => rfl
  case hRo =>
    intro B A A' k o hr hk ho
    exact (hr.block k (Array.getElem?_eq_some_iff.1 hk).1).trans hk
  case hKt => exact fun h k => h.trans k
  case hKb =>
    intro W k o o' hk ho hc
    refine ⟨by simp [World.putObj], fun j hj => World.putObj_heap_other ?_⟩
    have := (HGG.out j hj).1
    omega
  case hI => exact OwnFrom.and (qi_own id) (fun s W W' row hs hg hr => fun g hgG => (hg.block g (by have h1 := (HGG.out g hgG); have h2 := hs g hgG; obtain ⟨cs, fz, h3⟩ := h1.2.2; rw [h3] at h2; exact lt_of h2) (fun e => by have := (hr g e.symm).1; have := (HGG.out g hgG).1; omega)).trans (hs g hgG))
  case hIx => intro cd; exact ownFrom_pure _ _
  case hIR =>
    intro s A A' h hr
    refine ⟨h.1.below hr, fun g hg => ?_⟩
    obtain ⟨cs, fz, h3⟩ := (HGG.out g hg).2.2
    exact (hr.block g (lt_of ((h.2 g hg).trans h3))).trans (h.2 g hg)
  case hIxR => intro cd s A A' h hr; exact h
  case h0 => exact ⟨HP.out.1, fun _ _ => rfl⟩
  case hA => exact fun x W => Below.refl _ W
  case hAI => exact fun pre x W h => h
  case hAK => exact fun pre x W h => ⟨Nat.le_refl _, fun _ _ => rfl⟩
  case hbody =>
    rintro lp pre x W V hWs ⟨hQI, hGk⟩ hpl hVs hV
    obtain ⟨vg, hv1, hv2⟩ := hQI.keys
    have c3 : V.cell? ⟨T, 0, none⟩ = some vg := Lib.cell_of_heap hv1 0
    have HQI := hid_of hQI
    have hpl2 : pre.length < 1099511627776 := by
      have := HSl.out
      omega
    obtain ⟨i0, hi0, hz0, hz1, hz2⟩ := Push.parts info62
    have HNX : Hid (∀ w1 v', w1.ownsRow w.heap.size 62 2 v' (pre.length + 1) (pre.flatMap cS ++ [.string (mk x.1), .int .i64 x.2]) → (V.alloc (.cells #[.string (mk x.1), .int .i64 x.2] 62)).grownBy w1 vg.ownBlock → (QI 26 62 w w2.heap.size T (pre ++ [x]) (w1.setCell ⟨T, 0, none⟩ v') ∧ ∀ g, G g → (w1.setCell ⟨T, 0, none⟩ v').heap[g]? = w2.heap[g]?) ∧ KeepsFrom w2.heap.size V (w1.setCell ⟨T, 0, none⟩ v') ∧ w1.heap[T]? = V.heap[T]?) := hid_of fun w1 v' ho hgr => by
      obtain ⟨a1, a2, a3, a4⟩ := hQI.step hv1 hv2 (by decide) x ho hgr
      refine ⟨⟨a1, fun g hg => ?_⟩, a2, a4⟩
      obtain ⟨h1, h2, cs, fz, h3⟩ := HGG.out g hg
      exact (a3 g (by omega) cs 96 fz ((hGk g hg).trans h3) (by decide)).trans (hGk g hg)
    have HG2 := hid_of hv2
    have HV1 := hid_of hv1
    have HGk := hid_of hGk
    clear hQI hv1 hv2 hV hVs hpl hWs hGk
    generalize hXk : mk x.1 = X at *
    generalize hXt : x.2 = xt at *
    gi_wp2_with (first
      | (gi_at_builtin; refine wpListIn_append_own _ rfl _ _ 26 rfl w.heap.size 62 i0 (.agg #[.string ⟨#[]⟩, .int .i64 0]) 2 24 Try.underlying26 hi0 hz0 hz1 hz2 rfl (by decide) _ _ _ rfl (row_b (B' := 0) HG2.out ((Below.refl _ V).alloc (Nat.le_refl _) _)) _ 1 1 [.string X, .int .i64 xt] rfl rfl (two_new _ _ _ _) (by simp [Value.oneCell']) (by unfold maxLen; omega) (by omega) (by have := HQI.out.bel.size; simp; omega) ?_; intro v' w1 hown hgr hnil; obtain ⟨g', cap', rfl⟩ := esucc_shape hown; obtain ⟨hi1, hk1, hG1⟩ := HNX.out w1 _ hown hgr; have cG1 : w1.cell? ⟨T, 0, none⟩ = some vg := Lib.cell_of_heap (hG1.trans HV1.out) 0; have fG1 : w1.frozen? ⟨T, 0, none⟩ = false := Lib.frozen_of_heap (hG1.trans HV1.out) 0; have H1 := hid_of (And.intro hi1 hk1); clear hi1 hk1 hG1 hown hgr hnil)
      | go_in)
    refine ⟨H1.out.2, ⟨H1.out.2.size, fun j hj => (H1.out.1.2 j hj).trans (HGk.out j hj).symm⟩, H1.out.1⟩
  case' hdone =>
    rintro D xs W hD hxs ⟨hQI, -⟩ hdf
    subst hxs
    obtain ⟨vg, hv1, hv2⟩ := hQI.keys
    have c3 : W.cell? ⟨T, 0, none⟩ = some vg := Lib.cell_of_heap hv1 0
    have HF := hid_of hv2
    have HB := hid_of hQI.bel
    have HDD := hid_of (And.intro hD hdf)
    have HSZ := hid_of hQI.wk
    clear hQI hv1 hv2 hdf hD
    gi_wp2_with fail
    refine ⟨by simp, .inl ⟨_, _, rfl, run_takeDeferred HDD.out.2, ?_⟩⟩
    exact ⟨_, results_tmp rfl _ _ _, ⟨vg, rfl, row_put _ HF.out HDD.out.2, HB.out.grown (grownBy_putObj' W D (.deferred none)) HB.out.size (fun j hj => by cases hj; have := HDD.out.1; have := HSZ.out; omega)⟩⟩
  case' hstop =>
    rintro D cd pre W hD hpre hf hdf
    exact hf.elim
end Go.Proofs.Ytiaggddpoddbcaa.Walk
