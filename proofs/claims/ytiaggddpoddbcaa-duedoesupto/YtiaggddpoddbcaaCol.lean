/- All that goes over an index, gathered: slices.Collect over rising; All. -/
import Derived.Test.YtiaggddpoddbcaaPeekS
import Derived.Test.YtiaggddpoddbcaaPush
import Derived.Test.YtiaggddpoddbcaaTake
namespace Go.Proofs.Ytiaggddpoddbcaa.Col
open Go.RowKit Go.Maps Go.Shelf
attribute [local go_sem] Oper.semAt_some
open Go.Proofs.Ytiaggddpoddbcaa.HeapMath
open Go.Proofs.Ytiaggddpoddbcaa.Heap
open Go.Proofs.Ytiaggddpoddbcaa.Turn
open Go.Proofs.Ytiaggddpoddbcaa.Before
open Go.Proofs.Ytiaggddpoddbcaa.RowB
open Go.Proofs.Ytiaggddpoddbcaa.Edge
open Go.Proofs.Ytiaggddpoddbcaa.IndexS
open Go.Proofs.Ytiaggddpoddbcaa.ThingS
open Go.Proofs.Ytiaggddpoddbcaa.Range
open Go.Proofs.Ytiaggddpoddbcaa.Rise
open Go.Proofs.Ytiaggddpoddbcaa.Peek
open Go.Proofs.Ytiaggddpoddbcaa.PeekS
set_option linter.unusedVariables false
set_option linter.unusedSimpArgs false
/-- a box that holds what is gathered: rows of entries (et) in a cell of type ct -/
structure QI (ct et : TypeId) (w : World) (B kk : Nat) (pre : Es) (W : World) : Prop where
  bel : Below w.heap.size w W
  size : B ≤ W.heap.size
  lk : kk < B
  wk : w.heap.size ≤ kk
  keys : ∃ v, W.heap[kk]? = some (.cells #[v] ct (0, 0)) ∧ W.ownsRow w.heap.size et 2 v pre.length (pre.flatMap cS)
section
variable {ct et : TypeId} {w : World} {B kk : Nat} {pre : Es} {W W' : World}
theorem QI.keep (h : QI ct et w B kk pre W) (hb : Below w.heap.size w W') (hs : W.heap.size ≤ W'.heap.size) (hk : ∀ k cs t fz, W.heap[k]? = some (.cells cs t fz) → (k < B ∨ t = et) → W'.heap[k]? = some (.cells cs t fz)) : QI ct et w B kk pre W' := by
  obtain ⟨v, h1, h2⟩ := h.keys
  refine ⟨hb, Nat.le_trans h.size hs, h.lk, h.wk, v, hk _ _ _ _ h1 (.inl h.lk), h2.1, h2.2.imp id ?_⟩
  rintro ⟨g', cap, cur, e', hb', hg', r⟩
  exact ⟨g', cap, cur, e', hb', hk _ _ _ _ hg' (.inr rfl), r⟩
theorem QI.grown {row : Option Nat} (h : QI ct et w B kk pre W) (hg : W.grownBy W' row) (hr : ∀ r, row = some r → B ≤ r ∧ ∃ o : Obj, W.heap[r]? = some o ∧ o.isCells = false) : QI ct et w B kk pre W' :=
  h.keep (h.bel.grown hg h.bel.size (fun j hj => by have := (hr j hj).1; have := h.lk; have := h.wk; omega)) hg.size fun k cs t fz hk _ => (hg.block k (lt_of hk) (fun e => by
    obtain ⟨_, o, ho, hc⟩ := hr k e.symm
    rw [hk] at ho
    cases ho
    cases hc)).trans hk
theorem qi_own (f : Es → Es) : OwnFrom B (fun (pre : Es) W => QI ct et w B kk (f pre) W) := fun s W W' row hs hg hr => hs.grown hg hr
theorem QI.tr (h : QI ct et w B kk pre W) (he : et ≠ 116 ∧ et ≠ 3) (t : Tr (B + 2) W W') : QI ct et w B kk pre W' :=
  h.keep ⟨t.os.trans h.bel.os, t.tape.trans h.bel.tape, t.output.trans h.bel.output, Nat.le_trans h.bel.size t.size, fun k hk => (t.block k (Nat.lt_of_lt_of_le hk h.bel.size) (.inl (by have := h.lk; have := h.wk; omega))).trans (h.bel.block k hk)⟩ t.size fun k cs ty fz hk ho => (t.block k (lt_of hk) (by
    rcases ho with q | q
    · exact .inl (by omega)
    · refine .inr fun cs' t' fz' e => ?_
      rw [hk] at e
      injection e with e
      injection e with _ e
      rw [← e, q]
      exact he)).trans hk
theorem QI.below (h : QI ct et w B kk pre W) (k : Below W.heap.size W W') : QI ct et w B kk pre W' :=
  h.keep (h.bel.trans (k.mono h.bel.size)) k.size fun j cs t fz hj _ => (k.block j (lt_of hj)).trans hj
theorem QI.step (h : QI ct et w B kk pre W) {vg : Value} (hv1 : W.heap[kk]? = some (.cells #[vg] ct (0, 0))) (hv2 : W.ownsRow w.heap.size et 2 vg pre.length (pre.flatMap cS)) (hct : ct ≠ et) (x : Bs × Int) {w1 : World} {v' : Value}
    (ho : w1.ownsRow w.heap.size et 2 v' (pre.length + 1) (pre.flatMap cS ++ cS x)) (hg : (W.alloc (.cells (cS x).toArray et)).grownBy w1 vg.ownBlock) :
    QI ct et w B kk (pre ++ [x]) (w1.setCell ⟨kk, 0, none⟩ v') ∧ KeepsFrom B W (w1.setCell ⟨kk, 0, none⟩ v') ∧ (∀ j, j ≠ kk → ∀ cs t fz, W.heap[j]? = some (.cells cs t fz) → t ≠ et → (w1.setCell ⟨kk, 0, none⟩ v').heap[j]? = W.heap[j]?) ∧ w1.heap[kk]? = W.heap[kk]? := by
  have hown : ∀ q, vg.ownBlock = some q → w.heap.size ≤ q ∧ ∃ cur, W.heap[q]? = some (.cells cur et (0, 0)) := fun q hq => by
    rcases hv2.2 with ⟨e', _⟩ | ⟨g', cap, cur, e', hb, hg', _⟩
    · rw [e'] at hq; cases hq
    · rw [e'] at hq
      injection hq with hq
      have : g' = q := hq
      subst this
      exact ⟨hb, cur, hg'⟩
  have b1 : Below W.heap.size W (W.alloc (.cells (cS x).toArray et)) := (Below.refl _ W).alloc (Nat.le_refl _) _
  have k1 : ∀ (j : Nat) (o : Obj), W.heap[j]? = some o → (∀ cs fz, o ≠ Obj.cells cs et fz) → w1.heap[j]? = some o := fun j o hj hne => by
    have hl := (Array.getElem?_eq_some_iff.1 hj).1
    refine (hg.block j (Nat.lt_of_lt_of_le hl b1.size) (fun e => ?_)).trans ((b1.block j hl).trans hj)
    obtain ⟨_, cur, hc⟩ := hown j e.symm
    rw [hj] at hc
    injection hc with hc
    exact hne _ _ hc
  have kk1 := k1 kk _ hv1 (fun cs fz e => by injection e with _ e; exact hct e)
  have s1 : W.heap.size ≤ (w1.setCell ⟨kk, 0, none⟩ v').heap.size := by rw [size_set]; exact Nat.le_trans b1.size hg.size
  have k2 : ∀ (j : Nat) (o : Obj), j ≠ kk → W.heap[j]? = some o → (∀ cs fz, o ≠ Obj.cells cs et fz) → (w1.setCell ⟨kk, 0, none⟩ v').heap[j]? = some o := fun j o hne hj hc => (set_ne hne _).trans (k1 j o hj hc)
  have bw : Below w.heap.size w (w1.setCell ⟨kk, 0, none⟩ v') := ((((h.bel.trans (b1.mono h.bel.size))).grown hg (Nat.le_trans h.bel.size b1.size) (fun j hj => (hown j hj).1))).setCell h.wk _
  refine ⟨⟨bw, Nat.le_trans h.size s1, h.lk, h.wk, v', (set_at kk1 _).trans rfl, ?_⟩, ⟨s1, fun j o hB hj hc => k2 j o ?_ hj ?_⟩, fun j hB cs t fz hj ht => (k2 j _ hB hj ?_).trans hj.symm, kk1.trans hv1.symm⟩
  · rw [List.length_append, List.flatMap_append]
    have e1 : [x].flatMap cS = cS x := by simp
    rw [e1]
    refine ⟨ho.1, ho.2.imp id ?_⟩
    rintro ⟨g', cap, cur, e', hb, hg', r⟩
    refine ⟨g', cap, cur, e', hb, (set_ne (fun q => ?_) _).trans hg', r⟩
    rw [q, kk1] at hg'
    injection hg' with hg'
    injection hg' with _ hg'
    exact hct hg'
  · have := h.lk; omega
  · rintro cs fz rfl; cases hc
  · intro cs' fz' e
    injection e with _ e
    exact ht e
end
theorem two_new (W : World) (u v : Value) (ty : TypeId) : ∀ (j : Nat) (x : Value), [u, v][j]? = some x → (W.alloc (.cells #[u, v] ty)).cell? ((⟨W.heap.size, 0, none⟩ : Addr).add j) = some x := fun j x hj => by
  have e : (⟨W.heap.size, 0, none⟩ : Addr).add j = ⟨W.heap.size, j, none⟩ := by unfold Addr.add; by_cases h0 : j = 0 <;> simp [h0]
  rw [e, Lib.cell_of_heap (heap_alloc_new W _), ← hj]
  simp
theorem esucc_shape {W : World} {B e sz n : Nat} {v : Value} {xs : List Value} (h : W.ownsRow B e sz v (n + 1) xs) : ∃ g' c', v = .slice (some ⟨g', 0, none⟩) (n + 1) c' := by
  rcases h.2 with ⟨_, q⟩ | ⟨g, cap, cur, rfl, _⟩
  · omega
  · exact ⟨_, _, rfl⟩
set_option maxHeartbeats 4000000 in
set_option maxRecDepth 100000 in
theorem seq_call {Bx b g : Nat} {S : Es} {w : World} (hlen : S.length < 1099511627776) (hBx : Bx < w.heap.size) (hb : b < w.heap.size) (hg : g < w.heap.size)
    (hseq : ∀ (w3 : World) (N : Nat), Below w.heap.size w w3 → N ≤ w3.heap.size → SeqR Tr 4 Try.prog 54 #[.pointer (some ⟨Bx, 0, none⟩)] (fun x => #[eS x]) (Kp [Bx, b, g] N) (fun xs => xs = S) (fun pre => pre <+: S) S.length w3) :
    Calls Try.prog 57 #[.slice none 0 0, .func (.func 54) #[] #[.pointer (some ⟨Bx, 0, none⟩)]] w fun e w' => ∃ v, e = .returned v ∧ w'.ownsRow w.heap.size 96 2 v S.length (S.flatMap cS) ∧ Below w.heap.size w w' := by
  have HA := hid_of (And.intro hlen hseq)
  clear hlen hseq
  refine (callsIn_wide (n := 5)).1 ?_
  refine callsIn_of_wp_marks Try.func57 rfl trivial ?_ rfl
  simp only [Try.ntmps57, List.size_toArray, List.length_cons, List.length_nil, Nat.reduceAdd, Nat.reduceSub, Array.replicate_succ, Array.replicate_zero, List.push_toArray, List.append_toArray, List.nil_append, List.cons_append]
  gi_wp2_with fail
  obtain ⟨T, hT⟩ : ∃ T, T = w.heap.size := ⟨_, rfl⟩
  obtain ⟨w3, hw3⟩ : ∃ w3, w3 = w.alloc (.cells #[.slice none 0 0] 68) := ⟨_, rfl⟩
  have hP : QI 68 96 w (T + 1) T [] w3 := by
    have b1 : Below w.heap.size w w3 := by rw [hw3]; exact (Below.refl _ w).alloc (Nat.le_refl _) _
    exact ⟨b1, by rw [hw3, hT]; simp, by omega, by omega, .slice none 0 0, by rw [hw3, hT]; exact heap_alloc_new w _, World.ownsRow_nil _ _ _ _⟩
  have HS3 : Hid (w3.heap.size = T + 1) := hid_of (by rw [hw3, hT]; simp)
  have HT := hid_of hT
  have HP := hid_of hP
  rw [← hw3, ← hT]
  clear hP hT hw3
  apply range_own (n := 5) (P := Try.prog) (w := w3) (by decide) (gf := 54) (lb := #[.pointer (some ⟨Bx, 0, none⟩)]) rfl (enters_of Try.func54 (by kernel_rfl) rfl) (Kp := Kp [Bx, b, g] (T + 1)) (R := Tr) (encs := fun x : Bs × Int => #[eS x]) (S := fun xs => xs = S) (Sp := fun pre => pre <+: S) (N := S.length) (w0 := w3)
    (I := fun pre W => QI 68 96 w (T + 1) T pre W)
    (Ix := fun cd pre W => False)
    (A := fun x W => W.alloc (.cells #[.string (mk x.1), .int .i64 x.2] 96))
  case hassign =>
    intro lp x W K hK
    unfold eS
    gi_wp2_with fail
    exact hK
  case hseq => exact HA.out.2 w3 (T + 1) HP.out.bel (by rw [HS3.out]; omega)
  case hb0 => exact Below.refl _ _
  case hps => exact fun _ => rfl
  case hRo =>
    intro B A A' k o hr hk ho
    exact (hr.block k (Array.getElem?_eq_some_iff.1 hk).1 (.inr fun cs t fz e => by rw [hk] at e; cases e; cases ho)).trans hk
  case hKt => exact fun h k => h.trans k
  case hKb =>
    intro W k o o' hk ho hc
    rw [HS3.out] at hk
    refine ⟨by simp [World.putObj], fun j hj => World.putObj_heap_other ?_, fun j hj cs t fz e ht => World.putObj_heap_other ?_⟩
    · have h1 : j = Bx ∨ j = b ∨ j = g := by simpa using hj
      have := HT.out
      rcases h1 with rfl | rfl | rfl <;> omega
    · rintro rfl; rw [ho] at e; cases e; cases hc
  case hI => rw [HS3.out]; exact qi_own id
  case hIx => intro cd; exact ownFrom_pure _ _
  case hIR => intro s A A' h hr; rw [HS3.out] at hr; exact h.tr (by decide) hr
  case hIxR => intro cd s A A' h hr; exact h
  case h0 => exact HP.out
  case hA => exact fun x W => (Below.refl _ W).alloc (Nat.le_refl _) _
  case hAI => exact fun pre x W h => h.below ((Below.refl _ W).alloc (Nat.le_refl _) _)
  case hAK =>
    intro pre x W h
    have hb2 : Below W.heap.size W (W.alloc (.cells #[.string (mk x.1), .int .i64 x.2] 96)) := (Below.refl _ W).alloc (Nat.le_refl _) _
    refine ⟨hb2.size, fun j hj => hb2.block j ?_, fun j hj cs t fz e ht => hb2.block j (lt_of e)⟩
    have h1 : j = Bx ∨ j = b ∨ j = g := by simpa using hj
    have := h.bel.size
    rcases h1 with rfl | rfl | rfl <;> omega
  case hbody =>
    rintro lp pre x W V hWs hQI hpl hVs hV
    have hE : V.heap[W.heap.size]? = some (.cells #[.string (mk x.1), .int .i64 x.2] 96 (0, 0)) := (hV _ (Nat.le_refl _)).trans (heap_alloc_new W _)
    obtain ⟨E, hEE⟩ : ∃ E, E = W.heap.size := ⟨_, rfl⟩
    rw [← hEE] at hE ⊢
    have e0 : V.cell? ⟨E, 0, none⟩ = some (.string (mk x.1)) := Lib.cell_of_heap hE 0
    have e1 : V.cell? ⟨E, 1, none⟩ = some (.int .i64 x.2) := Lib.cell_of_heap hE 1
    obtain ⟨vg, hv1, hv2⟩ := hQI.keys
    have c3 : V.cell? ⟨T, 0, none⟩ = some vg := Lib.cell_of_heap hv1 0
    have HQI := hid_of hQI
    have hpl2 : pre.length < 1099511627776 := by
      have := HA.out.1
      omega
    obtain ⟨i0, hi0, hz0, hz1, hz2⟩ := Push.parts Push.info96
    have HNX : Hid (∀ w1 v', w1.ownsRow w.heap.size 96 2 v' (pre.length + 1) (pre.flatMap cS ++ [.string (mk x.1), .int .i64 x.2]) → (V.alloc (.cells #[.string (mk x.1), .int .i64 x.2] 96)).grownBy w1 vg.ownBlock → QI 68 96 w (T + 1) T (pre ++ [x]) (w1.setCell ⟨T, 0, none⟩ v') ∧ KeepsFrom (T + 1) V (w1.setCell ⟨T, 0, none⟩ v') ∧ (∀ j, j ≠ T → ∀ cs t fz, V.heap[j]? = some (.cells cs t fz) → t ≠ 96 → (w1.setCell ⟨T, 0, none⟩ v').heap[j]? = V.heap[j]?) ∧ w1.heap[T]? = V.heap[T]?) := hid_of fun w1 v' ho hgr => hQI.step hv1 hv2 (by decide) x ho hgr
    have HG2 := hid_of hv2
    have HV1 := hid_of hv1
    clear hQI hv1 hv2 hE hV hVs hpl hEE hWs
    generalize hXk : mk x.1 = X at *
    generalize hXt : x.2 = xt at *
    gi_wp2_with (first
      | (gi_at_builtin; refine wpListIn_append_own _ rfl _ _ 68 rfl w.heap.size 96 i0 (.agg #[.string ⟨#[]⟩, .int .i64 0]) 2 24 Try.underlying68 hi0 hz0 hz1 hz2 rfl (by decide) _ _ _ rfl (row_b (B' := 0) HG2.out ((Below.refl _ V).alloc (Nat.le_refl _) _)) _ 1 1 [.string X, .int .i64 xt] rfl rfl (two_new _ _ _ _) (by simp [Value.oneCell']) (by unfold maxLen; omega) (by omega) (by have := HQI.out.bel.size; simp; omega) ?_; intro v' w1 hown hgr hnil; obtain ⟨g', cap', rfl⟩ := esucc_shape hown; obtain ⟨hi1, hk1, hlow1, hG1⟩ := HNX.out w1 _ hown hgr; have cG1 : w1.cell? ⟨T, 0, none⟩ = some vg := Lib.cell_of_heap (hG1.trans HV1.out) 0; have fG1 : w1.frozen? ⟨T, 0, none⟩ = false := Lib.frozen_of_heap (hG1.trans HV1.out) 0; have H1 := hid_of (And.intro hi1 (And.intro hk1 hlow1)); clear hi1 hk1 hlow1 hG1 hown hgr hnil)
      | go_in)
    refine ⟨by rw [HS3.out]; exact H1.out.2.1, ⟨H1.out.2.1.size, fun j hj => ?_, fun j hj cs t fz e ht => H1.out.2.2 j (by omega) cs t fz e (by rcases ht with rfl | rfl <;> decide)⟩, H1.out.1⟩
    have h1 : j = Bx ∨ j = b ∨ j = g := by simpa using hj
    have s1 := H1.out.1.bel
    have s2 := HQI.out.bel
    rcases h1 with rfl | rfl | rfl
    · exact (s1.block _ hBx).trans (s2.block _ hBx).symm
    · exact (s1.block _ hb).trans (s2.block _ hb).symm
    · exact (s1.block _ hg).trans (s2.block _ hg).symm
  case' hdone =>
    rintro D xs W hD hxs hQI hdf
    subst hxs
    obtain ⟨vg, hv1, hv2⟩ := hQI.keys
    have c3 : W.cell? ⟨T, 0, none⟩ = some vg := Lib.cell_of_heap hv1 0
    have HF := hid_of hv2
    have HB := hid_of hQI.bel
    have HDD := hid_of (And.intro hD hdf)
    clear hQI hv1 hv2 hdf hD
    gi_wp2_with fail
    refine ⟨by simp, .inl ⟨_, _, rfl, run_takeDeferred HDD.out.2, ?_⟩⟩
    exact ⟨_, results_tmp rfl _ _ _, ⟨vg, rfl, row_put _ HF.out HDD.out.2, HB.out.grown (grownBy_putObj' W D (.deferred none)) HB.out.size (fun j hj => by cases hj; have := HDD.out.1; have := HS3.out; have := HT.out; omega)⟩⟩
  case' hstop =>
    rintro D cd pre W hD hpre hf hdf
    exact hf.elim
end Go.Proofs.Ytiaggddpoddbcaa.Col
