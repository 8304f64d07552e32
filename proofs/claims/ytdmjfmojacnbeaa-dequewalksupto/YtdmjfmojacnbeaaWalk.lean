/- The law DequeWalks, walked: three ranges, one of them with a range within. -/
import Derived.Test.YtdmjfmojacnbeaaWalkR
import Derived.Test.YtdmjfmojacnbeaaEnds
import Derived.Laws.EntriesVeiled
namespace Go.Proofs.Ytdmjfmojacnbeaa.Walk
open Go.RowKit Go.Shelf
open Go.Proofs.Ytdmjfmojacnbeaa.Base
open Go.Proofs.Ytdmjfmojacnbeaa.Held
open Go.Proofs.Ytdmjfmojacnbeaa.Free
open Go.Proofs.Ytdmjfmojacnbeaa.Same
open Go.Proofs.Ytdmjfmojacnbeaa.Awake
open Go.Proofs.Ytdmjfmojacnbeaa.Seq
open Go.Proofs.Ytdmjfmojacnbeaa.WalkM
open Go.Proofs.Ytdmjfmojacnbeaa.WalkN
open Go.Proofs.Ytdmjfmojacnbeaa.WalkR
open Go.Proofs.Ytdmjfmojacnbeaa.EoA
open Go.Proofs.Ytdmjfmojacnbeaa.Eoes
set_option linter.unusedVariables false
set_option linter.unusedSimpArgs false
attribute [local go_sem] Oper.semAt_some
theorem eq_nilF (w : World) (B : Nat) : (binOp .eql 69 (.func (.func 80) #[] #[.pointer (some ⟨B, 0, none⟩)]) .nilFunc).run Try.prog w = .ok (.bool false) w := by kernel_rfl
theorem st3 (w : World) (u dv : Value) : (((w.alloc (.cells #[u] 22)).alloc (.cells #[dv] 23)).alloc (.cells #[.bool false] 4)).heap[w.heap.size]? = some (.cells #[u] 22 (0, 0)) ∧ (((w.alloc (.cells #[u] 22)).alloc (.cells #[dv] 23)).alloc (.cells #[.bool false] 4)).heap[w.heap.size + 1]? = some (.cells #[dv] 23 (0, 0)) ∧ (((w.alloc (.cells #[u] 22)).alloc (.cells #[dv] 23)).alloc (.cells #[.bool false] 4)).heap[w.heap.size + 2]? = some (.cells #[.bool false] 4 (0, 0)) ∧ (((w.alloc (.cells #[u] 22)).alloc (.cells #[dv] 23)).alloc (.cells #[.bool false] 4)).heap.size = w.heap.size + 3 ∧ Below w.heap.size w (((w.alloc (.cells #[u] 22)).alloc (.cells #[dv] 23)).alloc (.cells #[.bool false] 4)) := by
  have e1 : (w.alloc (.cells #[u] 22)).heap.size = w.heap.size + 1 := by simp
  have e2 : ((w.alloc (.cells #[u] 22)).alloc (.cells #[dv] 23)).heap.size = w.heap.size + 2 := by simp
  have h2 := heap_alloc_new ((w.alloc (.cells #[u] 22)).alloc (.cells #[dv] 23)) (.cells #[.bool false] 4)
  have h1 := heap_alloc_new (w.alloc (.cells #[u] 22)) (.cells #[dv] 23)
  have h0 := heap_alloc_new w (.cells #[u] 22)
  rw [e2] at h2
  rw [e1] at h1
  refine ⟨?_, ?_, h2, by simp, (((Below.refl _ w).alloc (Nat.le_refl _) _).alloc (by simp) _).alloc (by simp; omega) _⟩
  · rw [Below.heap_alloc _ _ _ (by omega), Below.heap_alloc _ _ _ (by omega)]; exact h0
  · rw [Below.heap_alloc _ _ _ (by omega)]; exact h1
set_option maxHeartbeats 8000000 in
set_option maxRecDepth 100000 in
theorem walks_call {w : World} {u dv : Value} {l : List El} {ds : List DD} (hd : DSl w dv ds) (h : SL (fun k => k < w.heap.size) w u l) (hb : l.length + wts ds ≤ 1048576) :
    Calls Try.prog 8 #[u, dv] w fun e w' => e = .returned (.bool true) ∧ Below w.heap.size w w' := by
  obtain ⟨ua, uc, rfl, huc, hur⟩ := id h
  have HOK := hid_of hd.ok
  obtain ⟨da, dc, rfl, hat⟩ := hd.at'
  have HAT := hid_of hat
  obtain ⟨N, HN⟩ : ∃ N, Hid (N = ds.length) := ⟨_, hid_of rfl⟩
  have hdl := wts_len ds
  rw [← HN.out]
  clear hat hd
  have HU := hid_of h
  have HO := hid_of (fun (W : World) (k : Below w.heap.size w W) => of_call (h.keep (w' := W) fun j _ e => k.block j e) (by omega))
  have HA := hid_of awake_call
  have hne := eq_nilF
  clear h hur
  refine (callsIn_wide (n := 7)).1 ?_
  refine callsIn_of_wp_marks Try.func8 rfl trivial ?_ rfl
  refine wpIn_wide.2 ?_
  simp only [Try.ntmps8, List.size_toArray, List.length_cons, List.length_nil, Nat.reduceAdd, Nat.reduceSub, Array.replicate_succ, Array.replicate_zero, List.push_toArray, List.append_toArray, List.nil_append, List.cons_append]
  go_wp2_with fail
  refine (HO.out _ (st3 _ _ _).2.2.2.2).mono ?_
  rintro e w1 ⟨b, rfl, q1, k1⟩
  have S3 := hid_of (st3 w (.slice ua l.length uc) (.slice da N dc))
  generalize (((w.alloc (.cells #[.slice ua l.length uc] 22)).alloc (.cells #[.slice da N dc] 23)).alloc (.cells #[.bool false] 4)) = W3 at q1 k1 S3
  have Q1 := hid_of (And.intro q1 k1)
  clear q1 k1
  go_wp2_with fail
  have S1 : Hid (w1.heap[w.heap.size]? = some (.cells #[.slice ua l.length uc] 22 (0, 0)) ∧ w1.heap[w.heap.size + 1]? = some (.cells #[.slice da N dc] 23 (0, 0)) ∧ w1.heap[w.heap.size + 2]? = some (.cells #[.bool false] 4 (0, 0)) ∧ w.heap.size + 3 ≤ w1.heap.size ∧ Below w.heap.size w w1 ∧ DQ (fun k => w.heap.size + 3 ≤ k ∧ k < w1.heap.size) b l w1) := by
    obtain ⟨a0, a1, a2, sz, bl⟩ := S3.out
    obtain ⟨q, k⟩ := Q1.out
    rw [sz] at k q
    exact ⟨(k.block _ (by omega)).trans a0, (k.block _ (by omega)).trans a1, (k.block _ (by omega)).trans a2, by have := k.size; omega, bl.trans (k.mono (by omega)), q.low⟩
  clear S3 Q1
  refine (HA.out _).mono ?_
  rintro e w2 ⟨rfl, k2⟩
  have S2 : Hid (w2.heap[w1.heap.size]? = some (.cells #[ptr b] 24 (0, 0)) ∧ Below w1.heap.size w1 w2 ∧ w1.heap.size + 1 ≤ w2.heap.size) := by
    have bA : Below w1.heap.size w1 (w1.alloc (.cells #[ptr b] 24)) := (Below.refl _ w1).alloc (Nat.le_refl _) _
    have sz : (w1.alloc (.cells #[ptr b] 24)).heap.size = w1.heap.size + 1 := by simp
    exact ⟨(k2.block _ (by rw [sz]; omega)).trans (heap_alloc_new w1 _), bA.trans (k2.mono bA.size), Nat.le_trans (Nat.le_of_eq sz.symm) k2.size⟩
  have cD : w2.cell? ⟨w1.heap.size, 0, none⟩ = some (ptr b) := Lib.cell_of_heap S2.out.1 0
  have HAl := hid_of (all_call (S1.out.2.2.2.2.2.keep (w' := w2) fun k _ e => S2.out.2.1.block k e.2) (by omega))
  clear k2
  go_wp2_with fail
  refine HAl.out.mono ?_
  rintro e w3 ⟨Bx, v, rfl, hx, hbx, nv, k3⟩
  have S3 := hid_of (And.intro hx (And.intro hbx (And.intro nv k3)))
  clear hx hbx nv k3 cD
  go_wp2_with fail
  obtain ⟨Q, hQ⟩ : ∃ Q : Nat → Prop, Q = fun k => k < w.heap.size + 3 ∨ w1.heap.size ≤ k ∧ k < w3.heap.size + 1 := ⟨_, rfl⟩
  obtain ⟨W5, hW5⟩ : ∃ W5, W5 = w3.alloc (.cells #[.func (.func 80) #[] #[.pointer (some ⟨Bx, 0, none⟩)]] 69) := ⟨_, rfl⟩
  have CU : Hid (Cw w (.slice ua l.length uc) (.slice da N dc) v l b w1.heap.size w3.heap.size Bx Q [] W5 ∧ Uw b Q l W5) := by
    rw [hQ, hW5]
    exact cw_start S1.out S2.out S3.out
  rw [← hW5]
  clear hQ hW5 S1 S2 S3 HAl HO HA
  generalize w1.heap.size = Db at *
  generalize w3.heap.size = Ab at *
  refine (wpIn_wide (n := 7)).1 ?_
  apply share (P := fun W D => Hid (Cw w (.slice ua l.length uc) (.slice da N dc) v l b Db Ab Bx (fun k => Q k ∨ k = D) [D] W ∧ Uw b (fun k => Q k ∨ k = D) l W))
  case hmain =>
    intro HR
    have hsz : w.heap.size + 2 < W5.heap.size := CU.out.1.lt _ CU.out.1.cr.1
    have hIt := iter_stops 6 (by decide) Q Bx v l W5 (by omega) CU.out.1.cx.1 CU.out.1.lt (Lib.cell_of_heap CU.out.1.cx.2 0) CU.out.1.sv
    have hKb : ∀ (W : World) (q : Nat) (o o' : Obj), W5.heap.size ≤ q → W.heap[q]? = some o → o.isCells = false → o.isWalk = false → Kp Q W (W.putObj q o') := kp_put CU.out.1.lt
    apply wpIn_rangeFunc_ownG (F := Fence.wide) (n := 7) (P := Try.prog) (w := W5) rfl (by decide) (gf := 80) (lb := #[.pointer (some ⟨Bx, 0, none⟩)]) rfl trivial (enters_of Try.func80 (by kernel_rfl) rfl) hIt kp_t hKb (Below.refl _ _) (fun _ => rfl)
      (fun pre W => pre = [] ∧ Cw w (.slice ua l.length uc) (.slice da N dc) v l b Db Ab Bx Q [] W ∧ Uw b Q l W)
      (fun c pre W => c = .exit 0 ∧ Cw w (.slice ua l.length uc) (.slice da N dc) v l b Db Ab Bx Q [] W ∧ Uw b Q l W)
      (OwnFrom.and (ownFrom_pure _ _) (OwnFrom.and (cw_own _ _ _ _ _ _ _ _ _ _ _ _ CU.out.1.lt) (uw_own _ _ _ _)))
      (fun c => OwnFrom.and (ownFrom_pure _ _) (OwnFrom.and (cw_own _ _ _ _ _ _ _ _ _ _ _ _ CU.out.1.lt) (uw_own _ _ _ _)))
      ⟨rfl, CU.out.1, CU.out.2⟩
    case hassign =>
      intro lp x W K hK
      unfold Seq.encI
      gi_wp2
      exact hK
    case hbody =>
      rintro lp pre x W ⟨rfl, hC, hU⟩ hpl
      gi_wp2
      exact ⟨KeepsFrom.refl _ _, rfl, hC, hU⟩
    case hdone =>
      rintro D xs W hD hxs ⟨_, hC, hU⟩ hK
      exact HR W D ⟨hC.mark hK (by omega), hU.mark hK⟩
    case hstop =>
      rintro D c pre W hD _ ⟨rfl, hC, hU⟩ hK
      refine wpIn_exit (inb ?_)
      exact HR W D ⟨hC.mark hK (by omega), hU.mark hK⟩
  case hrest =>
    intro W6 D6 C6'
    obtain ⟨Q6, hQ6⟩ : ∃ Q6 : Nat → Prop, Q6 = fun k => Q k ∨ k = D6 := ⟨_, rfl⟩
    have C6 : Hid (Cw w (.slice ua l.length uc) (.slice da N dc) v l b Db Ab Bx Q6 [D6] W6 ∧ Uw b Q6 l W6) := by rw [hQ6]; exact C6'.out
    clear C6' hQ6 CU
    have cL : W6.cell? ⟨w.heap.size, 0, none⟩ = some (.slice ua l.length uc) := Lib.cell_of_heap C6.out.1.cl.2 0
    have V8 : Hid (Vw b Q6 (fun k => k = W6.heap.size ∨ k = W6.heap.size + 1) W6.heap.size (W6.heap.size + 1) l 0 ((W6.alloc (.cells #[.slice ua l.length uc] 22)).alloc (.cells #[.int .i64 0] 3)) ∧ Ok Q6 W6 ((W6.alloc (.cells #[.slice ua l.length uc] 22)).alloc (.cells #[.int .i64 0] 3))) :=
      Vw.start C6.out.2 C6.out.1.lt ((HU.out.keep fun k _ e => C6.out.1.bel.block k e).mono fun k _ e => C6.out.1.low k e)
    have C8 : Hid (Cw w (.slice ua l.length uc) (.slice da N dc) v l b Db Ab Bx Q6 [D6] ((W6.alloc (.cells #[.slice ua l.length uc] 22)).alloc (.cells #[.int .i64 0] 3))) := C6.out.1.ok V8.out.2
    have cA : ((W6.alloc (.cells #[.slice ua l.length uc] 22)).alloc (.cells #[.int .i64 0] 3)).cell? ⟨Ab, 0, none⟩ = some (.func (.func 80) #[] #[.pointer (some ⟨Bx, 0, none⟩)]) := Lib.cell_of_heap C8.out.ca.2 0
    go_wp2_with fail
    obtain ⟨W8, hW8⟩ : ∃ W8, W8 = (W6.alloc (.cells #[.slice ua l.length uc] 22)).alloc (.cells #[.int .i64 0] 3) := ⟨_, rfl⟩
    rw [← hW8] at V8 C8 ⊢
    have hQ8 : Hid (∀ k, Q6 k → k < W6.heap.size) := C6.out.1.lt
    have hsz8 : Hid (W6.heap.size + 2 = W8.heap.size) := by rw [hW8]; exact hid_of (by simp)
    obtain ⟨X, hX⟩ : ∃ X : Nat → Prop, X = fun k => k = W6.heap.size ∨ k = W6.heap.size + 1 := ⟨_, rfl⟩
    rw [← hX] at V8
    have hXi : Hid (X W6.heap.size ∧ X (W6.heap.size + 1)) := by rw [hX]; exact ⟨.inl rfl, .inr rfl⟩
    clear hW8 cA cL C6 hX
    generalize hWb : W6.heap.size = Wb at *
    have hIt := iter_stops 6 (by decide) Q6 Bx v l W8 (by omega) C8.out.cx.1 C8.out.lt (Lib.cell_of_heap C8.out.cx.2 0) C8.out.sv
    have hKb : ∀ (W : World) (q : Nat) (o o' : Obj), W8.heap.size ≤ q → W.heap[q]? = some o → o.isCells = false → o.isWalk = false → Kp Q6 W (W.putObj q o') := kp_put C8.out.lt
    refine (wpIn_wide (n := 7)).1 ?_
    apply rangeH (F := Fence.wide) (n := 7) (P := Try.prog) (w := W8) rfl (by decide) (gf := 80) (lb := #[.pointer (some ⟨Bx, 0, none⟩)]) rfl trivial (enters_of Try.func80 (by kernel_rfl) rfl) hIt kp_t kp_r hKb (Below.refl _ _) (fun _ => rfl)
      (fun pre W => ∃ l', l'.length ≤ l.length + wts (ds.take pre.length) ∧ Cw w (.slice ua l.length uc) (.slice da N dc) v l b Db Ab Bx Q6 [D6] W ∧ Vw b Q6 X Wb (Wb + 1) l' (pre.length : Int) W)
      (fun c pre W => ∀ k, ¬ pre = xsOf l k)
      (fun s W W' row ⟨l', hl, hC, hV⟩ hg hr => ⟨l', hl, cw_own _ _ _ _ _ _ _ _ _ _ _ _ C8.out.lt () W W' row hC hg hr, vw_own _ _ _ _ _ _ _ _ () W W' row hV hg hr⟩)
      (fun c => ownFrom_pure _ _)
      ⟨l, by omega, C8.out, V8.out.1⟩
    case hassign =>
      intro lp x W K hK
      unfold Seq.encI
      gi_wp2
      exact hK
    case hbody =>
      rintro lp pre x W hlp ⟨rr, hrr⟩ ⟨l', hll, hC, hV⟩ hpl
      have C := hid_of hC
      have V := hid_of hV
      have HLL := hid_of hll
      have cT : W.cell? ⟨Wb + 1, 0, none⟩ = some (.int .i64 (pre.length : Int)) := Lib.cell_of_heap hV.ct 0
      have fT : W.frozen? ⟨Wb + 1, 0, none⟩ = false := Lib.frozen_of_heap hV.ct 0
      have cL : W.cell? ⟨w.heap.size, 0, none⟩ = some (.slice ua l.length uc) := Lib.cell_of_heap hC.cl.2 0
      obtain ⟨g, o, rfl, cx⟩ : ∃ g o, ua = some ⟨g, o, none⟩ ∧ W.cell? ⟨g, o + pre.length, none⟩ = some (.int .i64 (l[pre.length]'hpl)) := by
        obtain ⟨a', c', e', _, hr⟩ := HU.out
        cases e'
        rcases hr with e | ⟨g, o, e, hg, hr⟩
        · rw [e] at hpl; simp at hpl
        · exact ⟨g, o, e, (World.cell?_of_block (w := w) (hC.bel.block g hg)).trans (hr _ _ (List.getElem?_eq_getElem hpl))⟩
      have hbad : Hid (x ≠ ((pre.length : Int), l[pre.length]'hpl) → ∀ k, ¬ pre ++ [x] = xsOf l k) := fun hne k e => hne (by rw [xs_get e]; simp [List.getD, List.getElem?_eq_getElem hpl])
      obtain ⟨xi, xv⟩ := x
      obtain ⟨y, hy⟩ : ∃ y, y = l[pre.length]'hpl := ⟨_, rfl⟩
      rw [← hy] at cx hbad
      have cR : W.cell? ⟨w.heap.size + 1 + 1, 0, none⟩ = some (.bool false) := Lib.cell_of_heap hC.cr.2 0
      have fR : W.frozen? ⟨w.heap.size + 1 + 1, 0, none⟩ = false := Lib.frozen_of_heap hC.cr.2 0
      clear hC hV hll hy
      by_cases hx1 : xi = (pre.length : Int)
      · subst hx1
        by_cases hx2 : xv = y
        · subst hx2
          have hle : ¬ l.length ≤ pre.length := by omega
          have w1 : IntKind.i64.wrap ((pre.length : Int) + 1) = (pre.length : Int) + 1 := IntWalk.i64_in _ (by omega)
          have V1 := hid_of (V.out.put ((pre.length : Int) + 1))
          have OK1 : Hid (Ok Q6 W (W.setCell ⟨Wb + 1, 0, none⟩ (.int .i64 ((pre.length : Int) + 1)))) := Ok.set ⟨_, _, _, V.out.ct⟩ V.out.xw.2.2.2.2 _
          have C1 := hid_of (C.out.ok OK1.out)
          have cM : (W.setCell ⟨Wb + 1, 0, none⟩ (.int .i64 ((pre.length : Int) + 1))).cell? ⟨w.heap.size + 1, 0, none⟩ = some (.slice da N dc) := Lib.cell_of_heap C1.out.cm.2 0
          obtain ⟨W1, hW1⟩ : ∃ W1, W1 = W.setCell ⟨Wb + 1, 0, none⟩ (.int .i64 ((pre.length : Int) + 1)) := ⟨_, rfl⟩
          by_cases hm : pre.length < N
          · have hm' : (pre.length : Int) < (N : Int) := by omega
            gi_wp2
            rw [← hW1] at V1 OK1 C1 cM ⊢
            have hsW : W.heap.size = W1.heap.size := by rw [hW1, size_set]
            clear hW1
            have V1d : Hid (Vw b Q6 X Wb (Wb + 1) l' ((pre.length : Int) + 1) W1.drew) := hid_of (V1.out.below (bel_drewN W1 1))
            have C1d : Hid (Cw w (.slice (some ⟨g, o, none⟩) l.length uc) (.slice da N dc) v l b Db Ab Bx Q6 [D6] W1.drew) := hid_of (C1.out.below (bel_drewN W1 1))
            have OK1d : Hid (Ok Q6 W W1.drew) := hid_of (OK1.out.trans (Ok.below (bel_drewN W1 1)))
            obtain ⟨F, r, cw, SX, hlo, hfin⟩ := WalkN.Vw.deed V1d.out C1d.out.lt
            have hil : pre.length < ds.length := by rw [← HN.out]; exact hm
            obtain ⟨gd, od, rfl, hcc⟩ : ∃ g o, da = some ⟨g, o, none⟩ ∧ ∀ i x, ds[i]? = some x → DCell w g (o + i * 6) x := by
              rcases HAT.out with e | q
              · rw [e] at hil; simp at hil
              · exact q
            have hc := hcc _ _ (List.getElem?_eq_getElem hil)
            have hok := HOK.out _ (List.getElem_mem hil)
            have ht := wts_take ds pre.length hil
            have hle2 := wts_le ds (pre.length + 1)
            obtain ⟨x, HX⟩ : ∃ x, Hid (x = ds[pre.length]) := ⟨_, hid_of rfl⟩
            rw [← HX.out] at hc hok ht
            have hgB : gd < w.heap.size := cell_lt hc.c0
            have d0 := hc.c0
            have d1 := hc.c1
            have d2 := hc.c2
            have d3 := hc.c3
            have d4 := hc.c4
            have d5 := hc.c5
            have hwx : x.wt = x.m.length + 1 := rfl
            have hsl : SL (Cf F X W1.drew).Lo W1.drew (.slice x.la x.m.length x.lc) x.m := (hok.sl.keep (w' := W1.drew) fun k _ e => C1.out.bel.block k e).mono fun k _ e => hlo k (C1d.out.low k e)
            have hll0 := HLL.out
            have hDo := do_any SX x hsl hok.ia hok.ib (by omega)
            have hlen := doS_len l' x.d
            have HDo := hid_of hDo
            have L2 : Hid ((doS l' x.d).length ≤ l.length + wts (ds.take (pre.length + 1))) := by rw [ht, hwx]; have : x.d.L = x.m := rfl; rw [this] at hlen; exact hid_of (by omega)
            have HFin := hid_of (fun W' r' F' => hfin W' r' F' (doS l' x.d))
            generalize doS l' x.d = l2 at *
            obtain ⟨K, la, lc, m, A, Bq, Cc, bf⟩ := x
            dsimp only at d0 d1 d2 d3 d4 d5 HDo
            obtain ⟨ra, rc, rfl, _, _⟩ := id SX.sl
            have HSS : Hid (∀ V, Cw w (.slice (some ⟨g, o, none⟩) l.length uc) (.slice (some ⟨gd, od, none⟩) N dc) v l b Db Ab Bx Q6 [D6] V → V.heap[Wb]? = some (.cells #[.slice ra l'.length rc] 22 (0, 0)) → (fun V : World => V.cell? ⟨Db, 0, none⟩ = some (ptr b) ∧ V.cell? ⟨Wb, 0, none⟩ = some (.slice ra l'.length rc) ∧ V.cell? ⟨w.heap.size + 1, 0, none⟩ = some (.slice (some ⟨gd, od, none⟩) N dc) ∧ V.cell? ⟨gd, od + pre.length * 6, none⟩ = some (.int .i64 K) ∧ V.cell? ⟨gd, od + pre.length * 6 + 1, none⟩ = some (.slice la m.length lc) ∧ V.cell? ⟨gd, od + pre.length * 6 + 2, none⟩ = some (.int .i64 A) ∧ V.cell? ⟨gd, od + pre.length * 6 + 3, none⟩ = some (.int .i64 Bq) ∧ V.cell? ⟨gd, od + pre.length * 6 + 4, none⟩ = some (.int .i64 Cc) ∧ V.cell? ⟨gd, od + pre.length * 6 + 5, none⟩ = some (.bool bf)) V) := fun V hc hv =>
              have hcr : ∀ o v, w.cell? ⟨gd, o, none⟩ = some v → V.cell? ⟨gd, o, none⟩ = some v := fun o v e => (World.cell?_of_block (w := w) (hc.bel.block gd hgB)).trans e
              ⟨Lib.cell_of_heap hc.cd.2 0, Lib.cell_of_heap hv 0, Lib.cell_of_heap hc.cm.2 0, hcr _ _ d0, hcr _ _ d1, hcr _ _ d2, hcr _ _ d3, hcr _ _ d4, hcr _ _ d5⟩
            have hs0 : (fun V : World => V.cell? ⟨Db, 0, none⟩ = some (ptr b) ∧ V.cell? ⟨Wb, 0, none⟩ = some (.slice ra l'.length rc) ∧ V.cell? ⟨w.heap.size + 1, 0, none⟩ = some (.slice (some ⟨gd, od, none⟩) N dc) ∧ V.cell? ⟨gd, od + pre.length * 6, none⟩ = some (.int .i64 K) ∧ V.cell? ⟨gd, od + pre.length * 6 + 1, none⟩ = some (.slice la m.length lc) ∧ V.cell? ⟨gd, od + pre.length * 6 + 2, none⟩ = some (.int .i64 A) ∧ V.cell? ⟨gd, od + pre.length * 6 + 3, none⟩ = some (.int .i64 Bq) ∧ V.cell? ⟨gd, od + pre.length * 6 + 4, none⟩ = some (.int .i64 Cc) ∧ V.cell? ⟨gd, od + pre.length * 6 + 5, none⟩ = some (.bool bf)) W1.drew := HSS.out _ C1d.out cw
            clear SX hlo hfin hcc hc hok ht hle2 hgB hwx hsl hDo hlen V1 C1 OK1 cw hll0 d0 d1 d2 d3 d4 d5
            apply share3 (P := fun (ra8 : Option Addr) (rc8 : Nat) (W' : World) => Hid (∃ F8, Sx F8 (Cf F X W1.drew) b l2 (.slice ra8 l2.length rc8) W1.drew W'))
            case hmain =>
              intro HR
              refine region_round (S := (fun V : World => V.cell? ⟨Db, 0, none⟩ = some (ptr b) ∧ V.cell? ⟨Wb, 0, none⟩ = some (.slice ra l'.length rc) ∧ V.cell? ⟨w.heap.size + 1, 0, none⟩ = some (.slice (some ⟨gd, od, none⟩) N dc) ∧ V.cell? ⟨gd, od + pre.length * 6, none⟩ = some (.int .i64 K) ∧ V.cell? ⟨gd, od + pre.length * 6 + 1, none⟩ = some (.slice la m.length lc) ∧ V.cell? ⟨gd, od + pre.length * 6 + 2, none⟩ = some (.int .i64 A) ∧ V.cell? ⟨gd, od + pre.length * 6 + 3, none⟩ = some (.int .i64 Bq) ∧ V.cell? ⟨gd, od + pre.length * 6 + 4, none⟩ = some (.int .i64 Cc) ∧ V.cell? ⟨gd, od + pre.length * 6 + 5, none⟩ = some (.bool bf))) (by kernel_rfl) (by kernel_rfl) (by rintro ⟨a, w, h⟩; exact h) ?_
              refine wpAnyH_take (i := 0) (v := ptr b) rfl (by kernel_rfl) (by kernel_rfl) (by kernel_rfl) (fun _ _ _ h => h) (Or.inl ⟨by kernel_rfl, ?_⟩) hs0 ?_
              · intro Wx hSW
                obtain ⟨s0, s1, s2, s3, s4, s5, s6, s7, s8⟩ := hSW
                go_simp
              try simp only [Act.put, List.setIfInBounds_toArray, List.set_cons_zero, List.set_cons_succ]
              refine wpAnyH_take (i := 1) (v := .slice ra l'.length rc) rfl (by kernel_rfl) (by kernel_rfl) (by kernel_rfl) (fun _ _ _ h => h) (Or.inl ⟨by kernel_rfl, ?_⟩) hs0 ?_
              · intro Wx hSW
                obtain ⟨s0, s1, s2, s3, s4, s5, s6, s7, s8⟩ := hSW
                go_simp
              try simp only [Act.put, List.setIfInBounds_toArray, List.set_cons_zero, List.set_cons_succ]
              refine wpAnyH_take (i := 2) (v := .slice (some ⟨gd, od, none⟩) N dc) rfl (by kernel_rfl) (by kernel_rfl) (by kernel_rfl) (fun _ _ _ h => h) (Or.inl ⟨by kernel_rfl, ?_⟩) hs0 ?_
              · intro Wx hSW
                obtain ⟨s0, s1, s2, s3, s4, s5, s6, s7, s8⟩ := hSW
                go_simp
              try simp only [Act.put, List.setIfInBounds_toArray, List.set_cons_zero, List.set_cons_succ]
              refine wpAnyH_take (i := 3) (v := .int .i64 (pre.length : Int)) rfl (by kernel_rfl) (by kernel_rfl) (by kernel_rfl) (fun _ _ _ h => h) (Or.inl ⟨by kernel_rfl, ?_⟩) hs0 ?_
              · intro Wx hSW
                obtain ⟨s0, s1, s2, s3, s4, s5, s6, s7, s8⟩ := hSW
                go_simp
              try simp only [Act.put, List.setIfInBounds_toArray, List.set_cons_zero, List.set_cons_succ]
              refine wpAnyH_take (i := 4) (v := .pointer (some ⟨gd, od + pre.length * 6, none⟩)) rfl (by kernel_rfl) (by kernel_rfl) (by kernel_rfl) (fun _ _ _ h => h) (Or.inl ⟨by kernel_rfl, ?_⟩) hs0 ?_
              · intro Wx hSW
                obtain ⟨s0, s1, s2, s3, s4, s5, s6, s7, s8⟩ := hSW
                go_simp
              try simp only [Act.put, List.setIfInBounds_toArray, List.set_cons_zero, List.set_cons_succ]
              refine wpAnyH_take (i := 5) (v := .agg (box K A Bq Cc (.slice la m.length lc) bf)) rfl (by kernel_rfl) (by kernel_rfl) (by kernel_rfl) (fun _ _ _ h => h) (Or.inl ⟨by kernel_rfl, ?_⟩) hs0 ?_
              · intro Wx hSW
                obtain ⟨s0, s1, s2, s3, s4, s5, s6, s7, s8⟩ := hSW
                go_simp
              try simp only [Act.put, List.setIfInBounds_toArray, List.set_cons_zero, List.set_cons_succ]
              refine wpAnyH_ready (rs := [6]) (by kernel_rfl) (by simp) ?_
              refine AllReadyH.cons rfl (fun K' hK => ?_) AllReadyH.nil
              go_simp
              refine HDo.out.mono ?_
              rintro e w8 ⟨r8, rfl, F8, S8⟩
              obtain ⟨ra8, rc8, rfl, _, _⟩ := id S8.sl
              obtain ⟨ok2, cw2, _, _⟩ := HFin.out w8 _ F8 S8
              have hs1 : (fun V : World => V.cell? ⟨Db, 0, none⟩ = some (ptr b) ∧ V.cell? ⟨Wb, 0, none⟩ = some (.slice ra l'.length rc) ∧ V.cell? ⟨w.heap.size + 1, 0, none⟩ = some (.slice (some ⟨gd, od, none⟩) N dc) ∧ V.cell? ⟨gd, od + pre.length * 6, none⟩ = some (.int .i64 K) ∧ V.cell? ⟨gd, od + pre.length * 6 + 1, none⟩ = some (.slice la m.length lc) ∧ V.cell? ⟨gd, od + pre.length * 6 + 2, none⟩ = some (.int .i64 A) ∧ V.cell? ⟨gd, od + pre.length * 6 + 3, none⟩ = some (.int .i64 Bq) ∧ V.cell? ⟨gd, od + pre.length * 6 + 4, none⟩ = some (.int .i64 Cc) ∧ V.cell? ⟨gd, od + pre.length * 6 + 5, none⟩ = some (.bool bf)) w8 := HSS.out _ (C1d.out.ok ok2) cw2
              refine hK.out _ _ hs1 (fun _ => ?_)
              clear hK K' ok2 cw2
              try simp only [Act.put, List.setIfInBounds_toArray, List.set_cons_zero, List.set_cons_succ]
              refine wpAnyH_take (i := 7) (v := .tuple #[.slice ra8 l2.length rc8, .bool true]) rfl (by kernel_rfl) (by kernel_rfl) (by kernel_rfl) (fun _ _ _ h => h) (Or.inl ⟨by kernel_rfl, ?_⟩) hs1 ?_
              · intro Wx hSW
                obtain ⟨s0, s1, s2, s3, s4, s5, s6, s7, s8⟩ := hSW
                go_simp
              try simp only [Act.put, List.setIfInBounds_toArray, List.set_cons_zero, List.set_cons_succ]
              refine wpAnyH_take (i := 8) (v := .slice ra8 l2.length rc8) rfl (by kernel_rfl) (by kernel_rfl) (by kernel_rfl) (fun _ _ _ h => h) (Or.inl ⟨by kernel_rfl, ?_⟩) hs1 ?_
              · intro Wx hSW
                obtain ⟨s0, s1, s2, s3, s4, s5, s6, s7, s8⟩ := hSW
                go_simp
              try simp only [Act.put, List.setIfInBounds_toArray, List.set_cons_zero, List.set_cons_succ]
              refine wpAnyH_take (i := 9) (v := .bool true) rfl (by kernel_rfl) (by kernel_rfl) (by kernel_rfl) (fun _ _ _ h => h) (Or.inl ⟨by kernel_rfl, ?_⟩) hs1 ?_
              · intro Wx hSW
                obtain ⟨s0, s1, s2, s3, s4, s5, s6, s7, s8⟩ := hSW
                go_simp
              try simp only [Act.put, List.setIfInBounds_toArray, List.set_cons_zero, List.set_cons_succ]
              refine wpAnyH_take (i := 10) (v := .slice ra8 l2.length rc8) rfl (by kernel_rfl) (by kernel_rfl) (by kernel_rfl) (fun _ _ _ h => h) (Or.inl ⟨by kernel_rfl, ?_⟩) hs1 ?_
              · intro Wx hSW
                obtain ⟨s0, s1, s2, s3, s4, s5, s6, s7, s8⟩ := hSW
                go_simp
              try simp only [Act.put, List.setIfInBounds_toArray, List.set_cons_zero, List.set_cons_succ]
              refine wpAnyH_take (i := 11) (v := .bool true) rfl (by kernel_rfl) (by kernel_rfl) (by kernel_rfl) (fun _ _ _ h => h) (Or.inl ⟨by kernel_rfl, ?_⟩) hs1 ?_
              · intro Wx hSW
                obtain ⟨s0, s1, s2, s3, s4, s5, s6, s7, s8⟩ := hSW
                go_simp
              try simp only [Act.put, List.setIfInBounds_toArray, List.set_cons_zero, List.set_cons_succ]
              refine wpAnyH_done (by kernel_rfl) ?_ _
              exact HR ra8 rc8 w8 ⟨F8, S8⟩
            case hrest =>
              intro ra8 rc8 W' hS'
              obtain ⟨F8, S8⟩ := hS'.out
              obtain ⟨ok2, cw2, ok3, V3⟩ := HFin.out W' _ F8 S8
              have c7 : W'.cell? ⟨Wb, 0, none⟩ = some (.slice ra l'.length rc) := Lib.cell_of_heap cw2 0
              have f7 : W'.frozen? ⟨Wb, 0, none⟩ = false := Lib.frozen_of_heap cw2 0
              have C4 := hid_of (C1d.out.ok ok3)
              have OK4 := hid_of (OK1d.out.trans ok3)
              have V4 := hid_of V3
              have cAi : ((W'.setCell ⟨Wb, 0, none⟩ (.slice ra8 l2.length rc8)).alloc (.cells #[.int .i64 0] 3)).cell? ⟨Ab, 0, none⟩ = some (.func (.func 80) #[] #[.pointer (some ⟨Bx, 0, none⟩)]) := Lib.cell_of_heap (C4.out.ok (Ok.alloc _ _)).ca.2 0
              clear S8 ok2 cw2 ok3 V3 hS'
              gi_wp2
              obtain ⟨W4, hW4⟩ : ∃ W4, W4 = W'.setCell ⟨Wb, 0, none⟩ (.slice ra8 l2.length rc8) := ⟨_, rfl⟩
              have hIb4 : W'.heap.size = W4.heap.size := by rw [hW4, size_set]
              rw [← hW4] at V4 OK4 C4 ⊢
              rw [hIb4]
              clear hW4 hIb4
              have hpx : (pre ++ [((pre.length : Int), xv)]).length = pre.length + 1 := by simp
              obtain ⟨Ib, hIb2⟩ : ∃ Ib, Ib = W4.heap.size := ⟨_, rfl⟩
              obtain ⟨X2, hX2⟩ : ∃ X2 : Nat → Prop, X2 = fun k => X k ∨ k = W4.heap.size := ⟨_, rfl⟩
              have J9 : Hid (Jw w (.slice (some ⟨g, o, none⟩) l.length uc) (.slice (some ⟨gd, od, none⟩) N dc) v l b Db Ab Bx Q6 [D6] X2 Wb (Wb + 1) l2 ((pre.length : Int) + 1) W Ib 0 (W4.alloc (.cells #[.int .i64 0] 3))) := by
                rw [hX2, hIb2]
                exact Jw.start C4.out V4.out OK4.out
              have hXX : Hid (∀ k, X k → X2 k) := by rw [hX2]; exact fun k e => Or.inl e
              obtain ⟨W9, hW9⟩ : ∃ W9, W9 = W4.alloc (.cells #[.int .i64 0] 3) := ⟨_, rfl⟩
              rw [← hW9] at J9 ⊢
              rw [← hIb2]
              clear hX2 hIb2 hW9 V4 OK4 C4 cAi
              have hr9 : W9.heap[lp]? = some (.loop rr) := J9.out.ok.stay hrr rfl
              have hs9 : W.heap.size ≤ W9.heap.size := J9.out.ok.size
              have hIt2 := (iter_stops 4 (by decide) Q6 Bx v l W9 (by omega) J9.out.cw.cx.1 J9.out.cw.lt (Lib.cell_of_heap J9.out.cw.cx.2 0) J9.out.cw.sv).inRound lp
              have hKb2 : ∀ (W : World) (q : Nat) (o o' : Obj), W9.heap.size ≤ q → W.heap[q]? = some o → o.isCells = false → o.isWalk = false → Kp Q6 W (W.putObj q o') := kp_put J9.out.cw.lt
              apply rangeN (F := Fence.wide.inRound lp) (n := 5) (P := Try.prog) (w := W9) (l₀ := lp) (r₀ := rr) rfl hr9 (by decide) (gf := 80) (lb := #[.pointer (some ⟨Bx, 0, none⟩)]) rfl trivial (enters_of Try.func80 (by kernel_rfl) rfl) hIt2 kp_t kp_r hKb2 (Below.refl _ _) (fun _ => rfl)
                (fun pre2 W2 => pre2.length < 2 ∧ Jw w (.slice (some ⟨g, o, none⟩) l.length uc) (.slice (some ⟨gd, od, none⟩) N dc) v l b Db Ab Bx Q6 [D6] X2 Wb (Wb + 1) l2 ((pre.length : Int) + 1) W Ib (pre2.length : Int) W2)
                (fun c pre2 W2 => c = .exit 4 ∧ pre2.length = 2 ∧ Jw w (.slice (some ⟨g, o, none⟩) l.length uc) (.slice (some ⟨gd, od, none⟩) N dc) v l b Db Ab Bx Q6 [D6] X2 Wb (Wb + 1) l2 ((pre.length : Int) + 1) W Ib 2 W2)
                (fun s A B row ⟨h1, h2⟩ hg hr => ⟨h1, jw_own _ _ _ _ _ _ _ _ _ _ _ _ _ _ _ _ _ _ _ _ J9.out.cw.lt hs9 A B row h2 hg hr⟩)
                (fun c s A B row ⟨h0, h1, h2⟩ hg hr => ⟨h0, h1, jw_own _ _ _ _ _ _ _ _ _ _ _ _ _ _ _ _ _ _ _ _ J9.out.cw.lt hs9 A B row h2 hg hr⟩)
                ⟨by decide, J9.out⟩
              case hassign =>
                intro lp2 x2 W2 K hK
                unfold Seq.encI
                gi_wp2
                exact hK
              case hbody =>
                rintro lp2 pre2 x2 W2 _ _ ⟨hp2, J⟩ hpl2
                have cI : W2.cell? ⟨Ib, 0, none⟩ = some (.int .i64 (pre2.length : Int)) := Lib.cell_of_heap J.ib 0
                have fI : W2.frozen? ⟨Ib, 0, none⟩ = false := Lib.frozen_of_heap J.ib 0
                have hlen : (pre2 ++ [x2]).length = pre2.length + 1 := by simp
                rcases (show pre2.length = 0 ∨ pre2.length = 1 by omega) with e | e
                · rw [e] at cI
                  have cI' : W2.cell? ⟨Ib, 0, none⟩ = some (.int .i64 0) := cI
                  have JJ := hid_of (J.put 1)
                  have hKp := hid_of (JJ.out.2.kp J.cw.lt)
                  clear cI J hIt2 hKb2
                  gi_wp2
                  refine ⟨JJ.out.2.from _, hKp.out, by omega, ?_⟩
                  rw [hlen, e]
                  exact JJ.out.1
                · rw [e] at cI
                  have cI' : W2.cell? ⟨Ib, 0, none⟩ = some (.int .i64 1) := cI
                  have JJ := hid_of (J.put 2)
                  clear cI J hIt2 hKb2
                  gi_wp2
                  exact ⟨JJ.out.2.from _, rfl, by omega, JJ.out.1⟩
              case hdone =>
                rintro xs W2 hxs ⟨hp2, J⟩
                have hll : l.length < 2 := by rw [hxs, xs_len] at hp2; exact hp2
                have hxl : xs.length = l.length := by rw [hxs, xs_len]
                rw [hxl] at J
                have cI : W2.cell? ⟨Ib, 0, none⟩ = some (.int .i64 (l.length : Int)) := Lib.cell_of_heap J.ib 0
                have cL2 : W2.cell? ⟨w.heap.size, 0, none⟩ = some (.slice (some ⟨g, o, none⟩) l.length uc) := Lib.cell_of_heap J.cw.cl.2 0
                have hmin : min (2 : Int) (l.length : Int) = (l.length : Int) := by omega
                have hlt2 : ¬ (2 : Int) ≤ (l.length : Int) := by omega
                have JJ := hid_of J
                clear J hIt2 hKb2 hxs
                gi_wp2
                refine ⟨JJ.out.ok.from _, JJ.out.ok.kp C.out.lt, l2, ?_, JJ.out.cw, ?_⟩
                · rw [hpx]; exact L2.out
                · rw [hpx, show ((pre.length + 1 : Nat) : Int) = (pre.length : Int) + 1 from by omega]
                  exact JJ.out.vw.less hXX.out hXi.out.1 hXi.out.2
              case hstop =>
                rintro c pre2 W2 ⟨k, hk, hpk⟩ ⟨rfl, hp2, J⟩
                have hll : 2 ≤ l.length := by rw [hpk, xs_len] at hp2; omega
                have cI : W2.cell? ⟨Ib, 0, none⟩ = some (.int .i64 2) := Lib.cell_of_heap J.ib 0
                have cL2 : W2.cell? ⟨w.heap.size, 0, none⟩ = some (.slice (some ⟨g, o, none⟩) l.length uc) := Lib.cell_of_heap J.cw.cl.2 0
                have hmin : min (2 : Int) (l.length : Int) = 2 := by omega
                have hlt2 : (2 : Int) ≤ (l.length : Int) := by omega
                have JJ := hid_of J
                clear J hIt2 hKb2 hpk
                refine wpIn_exit (inb ?_)
                gi_wp2
                refine ⟨JJ.out.ok.from _, JJ.out.ok.kp C.out.lt, l2, ?_, JJ.out.cw, ?_⟩
                · rw [hpx]; exact L2.out
                · rw [hpx, show ((pre.length + 1 : Nat) : Int) = (pre.length : Int) + 1 from by omega]
                  exact JJ.out.vw.less hXX.out hXi.out.1 hXi.out.2
          · have hm' : ¬ (pre.length : Int) < (N : Int) := by omega
            have cAi : ((W.setCell ⟨Wb + 1, 0, none⟩ (.int .i64 ((pre.length : Int) + 1))).alloc (.cells #[.int .i64 0] 3)).cell? ⟨Ab, 0, none⟩ = some (.func (.func 80) #[] #[.pointer (some ⟨Bx, 0, none⟩)]) := Lib.cell_of_heap (C1.out.ok (Ok.alloc _ _)).ca.2 0
            gi_wp2
            have hIb : W.heap.size = W1.heap.size := by rw [hW1, size_set]
            rw [← hW1] at V1 OK1 C1 ⊢
            rw [hIb]
            have L2 : Hid (l'.length ≤ l.length + wts (ds.take (pre.length + 1))) := by
              have e : ds.take (pre.length + 1) = ds.take pre.length := by
                have := HN.out
                rw [List.take_of_length_le (by omega), List.take_of_length_le (by omega)]
              rw [e]; exact HLL.out
            have hpx : (pre ++ [((pre.length : Int), xv)]).length = pre.length + 1 := by simp
            obtain ⟨Ib, hIb2⟩ : ∃ Ib, Ib = W1.heap.size := ⟨_, rfl⟩
            obtain ⟨X2, hX2⟩ : ∃ X2 : Nat → Prop, X2 = fun k => X k ∨ k = W1.heap.size := ⟨_, rfl⟩
            have J9 : Hid (Jw w (.slice (some ⟨g, o, none⟩) l.length uc) (.slice da N dc) v l b Db Ab Bx Q6 [D6] X2 Wb (Wb + 1) l' ((pre.length : Int) + 1) W Ib 0 (W1.alloc (.cells #[.int .i64 0] 3))) := by
              rw [hX2, hIb2]
              exact Jw.start C1.out V1.out OK1.out
            have hXX : Hid (∀ k, X k → X2 k) := by rw [hX2]; exact fun k e => Or.inl e
            obtain ⟨W9, hW9⟩ : ∃ W9, W9 = W1.alloc (.cells #[.int .i64 0] 3) := ⟨_, rfl⟩
            rw [← hW9] at J9 ⊢
            rw [← hIb2]
            clear hX2 hIb2 hW9 V1 OK1 C1 cAi
            have hr9 : W9.heap[lp]? = some (.loop rr) := J9.out.ok.stay hrr rfl
            have hs9 : W.heap.size ≤ W9.heap.size := J9.out.ok.size
            have hIt2 := (iter_stops 4 (by decide) Q6 Bx v l W9 (by omega) J9.out.cw.cx.1 J9.out.cw.lt (Lib.cell_of_heap J9.out.cw.cx.2 0) J9.out.cw.sv).inRound lp
            have hKb2 : ∀ (W : World) (q : Nat) (o o' : Obj), W9.heap.size ≤ q → W.heap[q]? = some o → o.isCells = false → o.isWalk = false → Kp Q6 W (W.putObj q o') := kp_put J9.out.cw.lt
            apply rangeN (F := Fence.wide.inRound lp) (n := 5) (P := Try.prog) (w := W9) (l₀ := lp) (r₀ := rr) rfl hr9 (by decide) (gf := 80) (lb := #[.pointer (some ⟨Bx, 0, none⟩)]) rfl trivial (enters_of Try.func80 (by kernel_rfl) rfl) hIt2 kp_t kp_r hKb2 (Below.refl _ _) (fun _ => rfl)
              (fun pre2 W2 => pre2.length < 2 ∧ Jw w (.slice (some ⟨g, o, none⟩) l.length uc) (.slice da N dc) v l b Db Ab Bx Q6 [D6] X2 Wb (Wb + 1) l' ((pre.length : Int) + 1) W Ib (pre2.length : Int) W2)
              (fun c pre2 W2 => c = .exit 4 ∧ pre2.length = 2 ∧ Jw w (.slice (some ⟨g, o, none⟩) l.length uc) (.slice da N dc) v l b Db Ab Bx Q6 [D6] X2 Wb (Wb + 1) l' ((pre.length : Int) + 1) W Ib 2 W2)
              (fun s A B row ⟨h1, h2⟩ hg hr => ⟨h1, jw_own _ _ _ _ _ _ _ _ _ _ _ _ _ _ _ _ _ _ _ _ J9.out.cw.lt hs9 A B row h2 hg hr⟩)
              (fun c s A B row ⟨h0, h1, h2⟩ hg hr => ⟨h0, h1, jw_own _ _ _ _ _ _ _ _ _ _ _ _ _ _ _ _ _ _ _ _ J9.out.cw.lt hs9 A B row h2 hg hr⟩)
              ⟨by decide, J9.out⟩
            case hassign =>
              intro lp2 x2 W2 K hK
              unfold Seq.encI
              gi_wp2
              exact hK
            case hbody =>
              rintro lp2 pre2 x2 W2 _ _ ⟨hp2, J⟩ hpl2
              have cI : W2.cell? ⟨Ib, 0, none⟩ = some (.int .i64 (pre2.length : Int)) := Lib.cell_of_heap J.ib 0
              have fI : W2.frozen? ⟨Ib, 0, none⟩ = false := Lib.frozen_of_heap J.ib 0
              have hlen : (pre2 ++ [x2]).length = pre2.length + 1 := by simp
              rcases (show pre2.length = 0 ∨ pre2.length = 1 by omega) with e | e
              · rw [e] at cI
                have cI' : W2.cell? ⟨Ib, 0, none⟩ = some (.int .i64 0) := cI
                have JJ := hid_of (J.put 1)
                have hKp := hid_of (JJ.out.2.kp J.cw.lt)
                clear cI J hIt2 hKb2
                gi_wp2
                refine ⟨JJ.out.2.from _, hKp.out, by omega, ?_⟩
                rw [hlen, e]
                exact JJ.out.1
              · rw [e] at cI
                have cI' : W2.cell? ⟨Ib, 0, none⟩ = some (.int .i64 1) := cI
                have JJ := hid_of (J.put 2)
                clear cI J hIt2 hKb2
                gi_wp2
                exact ⟨JJ.out.2.from _, rfl, by omega, JJ.out.1⟩
            case hdone =>
              rintro xs W2 hxs ⟨hp2, J⟩
              have hll : l.length < 2 := by rw [hxs, xs_len] at hp2; exact hp2
              have hxl : xs.length = l.length := by rw [hxs, xs_len]
              rw [hxl] at J
              have cI : W2.cell? ⟨Ib, 0, none⟩ = some (.int .i64 (l.length : Int)) := Lib.cell_of_heap J.ib 0
              have cL2 : W2.cell? ⟨w.heap.size, 0, none⟩ = some (.slice (some ⟨g, o, none⟩) l.length uc) := Lib.cell_of_heap J.cw.cl.2 0
              have hmin : min (2 : Int) (l.length : Int) = (l.length : Int) := by omega
              have hlt2 : ¬ (2 : Int) ≤ (l.length : Int) := by omega
              have JJ := hid_of J
              clear J hIt2 hKb2 hxs
              gi_wp2
              refine ⟨JJ.out.ok.from _, JJ.out.ok.kp C.out.lt, l', ?_, JJ.out.cw, ?_⟩
              · rw [hpx]; exact L2.out
              · rw [hpx, show ((pre.length + 1 : Nat) : Int) = (pre.length : Int) + 1 from by omega]
                exact JJ.out.vw.less hXX.out hXi.out.1 hXi.out.2
            case hstop =>
              rintro c pre2 W2 ⟨k, hk, hpk⟩ ⟨rfl, hp2, J⟩
              have hll : 2 ≤ l.length := by rw [hpk, xs_len] at hp2; omega
              have cI : W2.cell? ⟨Ib, 0, none⟩ = some (.int .i64 2) := Lib.cell_of_heap J.ib 0
              have cL2 : W2.cell? ⟨w.heap.size, 0, none⟩ = some (.slice (some ⟨g, o, none⟩) l.length uc) := Lib.cell_of_heap J.cw.cl.2 0
              have hmin : min (2 : Int) (l.length : Int) = 2 := by omega
              have hlt2 : (2 : Int) ≤ (l.length : Int) := by omega
              have JJ := hid_of J
              clear J hIt2 hKb2 hpk
              refine wpIn_exit (inb ?_)
              gi_wp2
              refine ⟨JJ.out.ok.from _, JJ.out.ok.kp C.out.lt, l', ?_, JJ.out.cw, ?_⟩
              · rw [hpx]; exact L2.out
              · rw [hpx, show ((pre.length + 1 : Nat) : Int) = (pre.length : Int) + 1 from by omega]
                exact JJ.out.vw.less hXX.out hXi.out.1 hXi.out.2
        · have hle : ¬ l.length ≤ pre.length := by omega
          gi_wp2
          exact ⟨(KeepsOthers.setCell _ _ _).from _, hbad.out fun e => hx2 (by injection e)⟩
      · gi_wp2
        exact ⟨(KeepsOthers.setCell _ _ _).from _, hbad.out fun e => hx1 (by injection e)⟩
    case hstop =>
      rintro D7 c pre W7 hD ⟨k, hk, hpk⟩ hx hK
      exact absurd hpk (hx _)
    case hdone =>
      rintro D7 xs W7 hD7 hxs ⟨l2, hll2, hC7, hV7⟩ hK7
      have hxl : xs.length = l.length := by rw [hxs, xs_len]
      rw [hxl] at hV7
      have hl2 : Hid (l2.length ≤ 1048576) := by have := wts_le ds xs.length; exact hid_of (by omega)
      have hDD : Hid (D6 < D7 ∧ Wb + 1 < D7 ∧ w.heap.size + 2 < D6) := by
        have h1 := hQ8.out D6 (hC7.mrk D6 (by simp)).1
        have h2 := hsz8.out
        exact ⟨by omega, by omega, (hC7.mrk D6 (by simp)).2.1⟩
      obtain ⟨Q7, hQ7⟩ : ∃ Q7 : Nat → Prop, Q7 = fun k => Q6 k ∨ k = D7 := ⟨_, rfl⟩
      have C7 : Hid (Cw w (.slice ua l.length uc) (.slice da N dc) v l b Db Ab Bx Q7 [D7, D6] W7) := by rw [hQ7]; exact hC7.mark hK7 (by have := hDD.out; omega)
      have V7 : Hid (Vw b Q7 X Wb (Wb + 1) l2 (l.length : Int) W7) := by rw [hQ7]; exact hV7.mark hK7
      have V8' := hid_of (V7.out.put 0)
      have OK8 : Ok Q7 W7 (W7.setCell ⟨Wb + 1, 0, none⟩ (.int .i64 0)) := Ok.set ⟨_, _, _, V7.out.ct⟩ V7.out.xw.2.2.2.2 _
      have C8' := hid_of (C7.out.ok OK8)
      have cT7 : W7.cell? ⟨Wb + 1, 0, none⟩ = some (.int .i64 (l.length : Int)) := Lib.cell_of_heap V7.out.ct 0
      have fT7 : W7.frozen? ⟨Wb + 1, 0, none⟩ = false := Lib.frozen_of_heap V7.out.ct 0
      have cL7 : W7.cell? ⟨w.heap.size, 0, none⟩ = some (.slice ua l.length uc) := Lib.cell_of_heap C7.out.cl.2 0
      have cA7 : (W7.setCell ⟨Wb + 1, 0, none⟩ (.int .i64 0)).cell? ⟨Ab, 0, none⟩ = some (.func (.func 80) #[] #[.pointer (some ⟨Bx, 0, none⟩)]) := Lib.cell_of_heap C8'.out.ca.2 0
      clear hIt hKb hxs hll2 hC7 hV7 hK7 hQ7 OK8 hD7 V8 C8 hQ8
      go_wp2_with fail
      obtain ⟨W9, hW9⟩ : ∃ W9, W9 = W7.setCell ⟨Wb + 1, 0, none⟩ (.int .i64 0) := ⟨_, rfl⟩
      rw [← hW9] at V8' C8' ⊢
      clear hW9 cT7 fT7 cL7 cA7 V7 C7
      have hIt := iter_stops 6 (by decide) Q7 Bx v l W9 (by omega) C8'.out.cx.1 C8'.out.lt (Lib.cell_of_heap C8'.out.cx.2 0) C8'.out.sv
      have hKb : ∀ (W : World) (q : Nat) (o o' : Obj), W9.heap.size ≤ q → W.heap[q]? = some o → o.isCells = false → o.isWalk = false → Kp Q7 W (W.putObj q o') := kp_put C8'.out.lt
      refine (wpIn_wide (n := 7)).1 ?_
      apply rangeH (F := Fence.wide) (n := 7) (P := Try.prog) (w := W9) rfl (by decide) (gf := 80) (lb := #[.pointer (some ⟨Bx, 0, none⟩)]) rfl trivial (enters_of Try.func80 (by kernel_rfl) rfl) hIt kp_t kp_r hKb (Below.refl _ _) (fun _ => rfl)
        (fun pre W => Cw w (.slice ua l.length uc) (.slice da N dc) v l b Db Ab Bx Q7 [D7, D6] W ∧ Vw b Q7 X Wb (Wb + 1) l2 (pre.length : Int) W)
        (fun c pre W => ∀ k, ¬ pre = xsOf l k)
        (fun s W W' row ⟨hC, hV⟩ hg hr => ⟨cw_own _ _ _ _ _ _ _ _ _ _ _ _ C8'.out.lt () W W' row hC hg hr, vw_own _ _ _ _ _ _ _ _ () W W' row hV hg hr⟩)
        (fun c => ownFrom_pure _ _)
        ⟨C8'.out, V8'.out⟩
      case hassign =>
        intro lp x W K hK
        unfold Seq.encI
        gi_wp2
        exact hK
      case hbody =>
        rintro lp pre x W hlp _ ⟨hC, hV⟩ hpl
        have C := hid_of hC
        have V := hid_of hV
        have cT : W.cell? ⟨Wb + 1, 0, none⟩ = some (.int .i64 (pre.length : Int)) := Lib.cell_of_heap hV.ct 0
        have fT : W.frozen? ⟨Wb + 1, 0, none⟩ = false := Lib.frozen_of_heap hV.ct 0
        have cL : W.cell? ⟨w.heap.size, 0, none⟩ = some (.slice ua l.length uc) := Lib.cell_of_heap hC.cl.2 0
        obtain ⟨g, o, rfl, cx⟩ : ∃ g o, ua = some ⟨g, o, none⟩ ∧ W.cell? ⟨g, o + pre.length, none⟩ = some (.int .i64 (l[pre.length]'hpl)) := by
          obtain ⟨a', c', e', _, hr⟩ := HU.out
          cases e'
          rcases hr with e | ⟨g, o, e, hg, hr⟩
          · rw [e] at hpl; simp at hpl
          · exact ⟨g, o, e, (World.cell?_of_block (w := w) (hC.bel.block g hg)).trans (hr _ _ (List.getElem?_eq_getElem hpl))⟩
        have hbad : Hid (x ≠ ((pre.length : Int), l[pre.length]'hpl) → ∀ k, ¬ pre ++ [x] = xsOf l k) := fun hne k e => hne (by rw [xs_get e]; simp [List.getD, List.getElem?_eq_getElem hpl])
        obtain ⟨xi, xv⟩ := x
        obtain ⟨y, hy⟩ : ∃ y, y = l[pre.length]'hpl := ⟨_, rfl⟩
        rw [← hy] at cx hbad
        have cR : W.cell? ⟨w.heap.size + 1 + 1, 0, none⟩ = some (.bool false) := Lib.cell_of_heap hC.cr.2 0
        have fR : W.frozen? ⟨w.heap.size + 1 + 1, 0, none⟩ = false := Lib.frozen_of_heap hC.cr.2 0
        clear hC hV hy
        by_cases hx1 : xi = (pre.length : Int)
        · subst hx1
          have hle : ¬ l.length ≤ pre.length := by omega
          by_cases hx2 : xv = y
          · subst hx2
            have w1 : IntKind.i64.wrap ((pre.length : Int) + 1) = (pre.length : Int) + 1 := IntWalk.i64_in _ (by omega)
            have V1 := hid_of (V.out.put ((pre.length : Int) + 1))
            have OK1 : Hid (Ok Q7 W (W.setCell ⟨Wb + 1, 0, none⟩ (.int .i64 ((pre.length : Int) + 1)))) := Ok.set ⟨_, _, _, V.out.ct⟩ V.out.xw.2.2.2.2 _
            have C1 := hid_of (C.out.ok OK1.out)
            have hpx : (pre ++ [((pre.length : Int), xv)]).length = pre.length + 1 := by simp
            have hlt : pre.length < l.length := hpl
            gi_wp2
            refine ⟨OK1.out.from _, OK1.out.kp C.out.lt, C1.out, ?_⟩
            rw [hpx, show ((pre.length + 1 : Nat) : Int) = (pre.length : Int) + 1 from by omega]
            exact V1.out
          · have hlt : pre.length < l.length := hpl
            gi_wp2
            exact ⟨(KeepsOthers.setCell _ _ _).from _, hbad.out fun e => hx2 (by injection e)⟩
        · gi_wp2
          exact ⟨(KeepsOthers.setCell _ _ _).from _, hbad.out fun e => hx1 (by injection e)⟩
      case hstop =>
        rintro D8 c pre W hD ⟨k, hk, hpk⟩ hx hK
        exact absurd hpk (hx _)
      case hdone =>
        rintro D8 xs W10 hD8 hxs ⟨hC, hV⟩ hK8
        have hxl : xs.length = l.length := by rw [hxs, xs_len]
        rw [hxl] at hV
        obtain ⟨⟨F, r, cw, dq, sl, hf⟩, ct, xw, xl⟩ := hV
        obtain ⟨ra, rc, rfl, _, _⟩ := id sl
        have h78 : D7 < D8 := by have := C8'.out.lt D7 (hC.mrk D7 (by simp)).1; omega
        have M10 : Hid (W10.heap[D8]? = some (.deferred (some [])) ∧ W10.heap[D7]? = some (.deferred (some [])) ∧ W10.heap[D6]? = some (.deferred (some [])) ∧ W10.heap[w.heap.size + 2]? = some (.cells #[.bool false] 4 (0, 0)) ∧ Below w.heap.size w W10) := ⟨hK8, (hC.mrk D7 (by simp)).2.2, (hC.mrk D6 (by simp)).2.2, hC.cr.2, hC.bel⟩
        have HLi := hid_of (list_call (show DQ F b l2 W10.drew from dq.drewN 1) (by have := hl2.out; omega))
        have HSl := hid_of (fun (W : World) (k : Below W10.drew.heap.size W10.drew W) (vv : Value) (nv : NR W10.drew.heap.size W vv l2) => same_call nv.sl ((show SL _ W10.drew _ l2 from sl.drewN 1).below k) rfl (by have := hl2.out; omega))
        have hs0 : (fun V : World => V.cell? ⟨Wb + 1, 0, none⟩ = some (.int .i64 (l.length : Int)) ∧ V.cell? ⟨w.heap.size, 0, none⟩ = some (.slice ua l.length uc) ∧ V.cell? ⟨Db, 0, none⟩ = some (ptr b) ∧ V.cell? ⟨Wb, 0, none⟩ = some (.slice ra l2.length rc)) W10.drew := ⟨Lib.cell_of_heap ct 0, Lib.cell_of_heap hC.cl.2 0, Lib.cell_of_heap hC.cd.2 0, Lib.cell_of_heap cw 0⟩
        have HK1 : Hid (∀ W, Below W10.drew.heap.size W10.drew W → ((fun V : World => V.cell? ⟨Wb + 1, 0, none⟩ = some (.int .i64 (l.length : Int)) ∧ V.cell? ⟨w.heap.size, 0, none⟩ = some (.slice ua l.length uc) ∧ V.cell? ⟨Db, 0, none⟩ = some (ptr b) ∧ V.cell? ⟨Wb, 0, none⟩ = some (.slice ra l2.length rc)) W ∧ W.cell? ⟨w.heap.size + 1 + 1, 0, none⟩ = some (.bool false) ∧ W.frozen? ⟨w.heap.size + 1 + 1, 0, none⟩ = false) ∧ (fun V : World => V.cell? ⟨Wb + 1, 0, none⟩ = some (.int .i64 (l.length : Int)) ∧ V.cell? ⟨w.heap.size, 0, none⟩ = some (.slice ua l.length uc) ∧ V.cell? ⟨Db, 0, none⟩ = some (ptr b) ∧ V.cell? ⟨Wb, 0, none⟩ = some (.slice ra l2.length rc)) (W.setCell ⟨w.heap.size + 1 + 1, 0, none⟩ (.bool true)) ∧ Fz w D6 D7 D8 (W.setCell ⟨w.heap.size + 1 + 1, 0, none⟩ (.bool true))) := fun W k => by
          have kk : ∀ j, j < W10.heap.size → W.heap[j]? = W10.heap[j]? := fun j hj => k.block j hj
          have e0 := (kk _ (lt_of ct)).trans ct
          have e1 := (kk _ (lt_of hC.cl.2)).trans hC.cl.2
          have e2 := (kk _ (lt_of hC.cd.2)).trans hC.cd.2
          have e3 := (kk _ (lt_of cw)).trans cw
          have e4 := (kk _ (lt_of hC.cr.2)).trans hC.cr.2
          have f1 := (kk _ (lt_of M10.out.1)).trans M10.out.1
          have f2 := (kk _ (lt_of M10.out.2.1)).trans M10.out.2.1
          have f3 := (kk _ (lt_of M10.out.2.2.1)).trans M10.out.2.2.1
          have hh := hDD.out
          exact ⟨⟨⟨Lib.cell_of_heap e0 0, Lib.cell_of_heap e1 0, Lib.cell_of_heap e2 0, Lib.cell_of_heap e3 0⟩, Lib.cell_of_heap e4 0, Lib.frozen_of_heap e4 0⟩,
            ⟨Lib.cell_of_heap ((set_ne (ne_ty e0 e4 (by decide)) _).trans e0) 0, Lib.cell_of_heap ((set_ne (by omega) _).trans e1) 0, Lib.cell_of_heap ((set_ne (ne_ty e2 e4 (by decide)) _).trans e2) 0, Lib.cell_of_heap ((set_ne (ne_ty e3 e4 (by decide)) _).trans e3) 0⟩,
            fn_start f1 f2 f3 e4 (M10.out.2.2.2.2.trans (((show Below W10.heap.size W10 W10.drew from bel_drewN W10 1).trans k).mono M10.out.2.2.2.2.size)) (by omega) h78 (by omega)⟩
        clear hIt hKb hxs hC hf ct xw xl cw dq sl hK8 hD8 V8' C8'
        go_wp2_with fail
        go_region_held3 (fun V : World => V.cell? ⟨Wb + 1, 0, none⟩ = some (.int .i64 (l.length : Int)) ∧ V.cell? ⟨w.heap.size, 0, none⟩ = some (.slice ua l.length uc) ∧ V.cell? ⟨Db, 0, none⟩ = some (ptr b) ∧ V.cell? ⟨Wb, 0, none⟩ = some (.slice ra l2.length rc)) (first | exact hs0 | exact hs1.1.1 | exact hs2.1.1 | exact hs2.2.1) (first
          | (go_at_call 14; refine HLi.out.mono ?_; rintro e w11 ⟨v11, rfl, n11, k11⟩; obtain ⟨va, vc, rfl, _, _⟩ := id n11.sl; have hs1 := HK1.out w11 k11)
          | (go_at_call 13; refine (HSl.out w11 k11 _ n11).mono ?_; rintro e w12 ⟨rfl, m12, rfl⟩; have hs2 := HK1.out _ (k11.trans ((bel_drewN w11 m12).mono k11.size)); obtain ⟨⟨hs3, cR, fR⟩, hs4, hfn⟩ := id hs2))
        go_wp2_with fail
        obtain ⟨a7, a6, ca, bb⟩ := hfn.fin
        refine ⟨by simp, .inl ⟨_, _, rfl, run_takeDeferred hfn.m8, ?_⟩⟩
        refine ⟨by simp, .inl ⟨_, _, rfl, run_takeDeferred a7, ?_⟩⟩
        refine ⟨by simp, .inl ⟨_, _, rfl, run_takeDeferred a6, ?_⟩⟩
        refine ⟨.bool true, ?_, rfl, bb⟩
        simp [results, Try.results8]
        exact ret_cell _ _ ca
end Go.Proofs.Ytdmjfmojacnbeaa.Walk
