/- The document's own change of names. -/
import Derived.Test.YtilbffbmpgebmaaRefFiles2
import Derived.Test.YtilbffbmpgebmaaLast
import Derived.Deep.RegionLaw
import Derived.Deep.RegionHeld3
namespace Go.Proofs.Ytilbffbmpgebmaa.RefTurn
open Go.RowKit Go.Maps
open Go.Proofs.Ytilbffbmpgebmaa.DiskMath
open Go.Proofs.Ytilbffbmpgebmaa.RefMath
open Go.Proofs.Ytilbffbmpgebmaa.Base
open Go.Proofs.Ytilbffbmpgebmaa.Small
open Go.Proofs.Ytilbffbmpgebmaa.Append
open Go.Proofs.Ytilbffbmpgebmaa.Names
open Go.Proofs.Ytilbffbmpgebmaa.Plan
open Go.Proofs.Ytilbffbmpgebmaa.File
open Go.Proofs.Ytilbffbmpgebmaa.RefNames
open Go.Proofs.Ytilbffbmpgebmaa.RefWith
open Go.Proofs.Ytilbffbmpgebmaa.RefBase
open Go.Proofs.Ytilbffbmpgebmaa.RefChange
open Go.Proofs.Ytilbffbmpgebmaa.RefFault
open Go.Proofs.Ytilbffbmpgebmaa.RefFiles
set_option linter.unusedVariables false
set_option linter.unusedSimpArgs false

theorem info101 : (Try.prog.info? 101).map (fun i => (i.zero, i.size, i.bytes)) = some (some (.agg #[.int .i64 0, .string ⟨#[]⟩, .string ⟨#[]⟩, .int .i64 0]), 4, 48) := by kernel_rfl
theorem und28 : Try.prog.underlying 28 = some (.slice (Try.prog.elem 28)) := by kernel_rfl
theorem el28 : Try.prog.elem 28 = 101 := by kernel_rfl
theorem size101 (w : World) : (Go.sizeOf 101).run Try.prog w = .ok 4 w := Try.sizeOf101 w
set_option maxRecDepth 100000 in
theorem append_rc (base : Nat) (w : World) (a : Option Addr) (n c0 : Nat) (xs : List Value) (a0 : Nat) (u0 u1 u2 u3 : Value) (h : w.ownsRow base 101 4 (.slice a n c0) n xs) (hn : n < 1099511627776) (hb : base ≤ w.heap.size)
    (hs : w.heap[a0]? = some (.cells #[u0, u1, u2, u3] 101 (0, 0))) (o0 : u0.oneCell' = true) (o1 : u1.oneCell' = true) (o2 : u2.oneCell' = true) (o3 : u3.oneCell' = true) :
    ∃ c w', (Builtin.append_ #[28, 28] 28 #[.slice a n n, .slice (some ⟨a0, 0, none⟩) 1 1]).run Try.prog w = .ok (.slice (some ⟨w.heap.size, 0, none⟩) (n + 1) c) w' ∧ w'.ownsRow base 101 4 (.slice (some ⟨w.heap.size, 0, none⟩) (n + 1) c) (n + 1) (xs ++ [u0, u1, u2, u3]) ∧ Below w.heap.size w w' := by
  obtain ⟨i, hi, hz0, hz1, hz2⟩ := parts info101
  have hnews : ∀ (j : Nat) u, [u0, u1, u2, u3][j]? = some u → w.cell? ((⟨a0, 0, none⟩ : Addr).add j) = some u := fun j u hj => by
    have e : (⟨a0, 0, none⟩ : Addr).add j = ⟨a0, j, none⟩ := by unfold Addr.add; by_cases h0 : j = 0 <;> simp [h0]
    rw [e, Lib.cell_of_heap hs, ← hj]
    simp
  have h1 : ∀ u ∈ [u0, u1, u2, u3], u.oneCell' = true := fun u hu => by
    simp only [List.mem_cons, List.not_mem_nil, or_false] at hu
    rcases hu with rfl | rfl | rfl | rfl <;> assumption
  have hsrc : Src Try.prog i.size 28 (.slice (some ⟨a0, 0, none⟩) 1 1) 1 [u0, u1, u2, u3] w := Src.ofSlice w Try.underlying28 ⟨a0, 0, none⟩ 1 1 _ (by rw [hz1]; rfl) hnews h1
  have hold : (Builtin.firstCells i.size n (.slice a n n)).run Try.prog w.drew = .ok xs.toArray w.drew := by
    rcases h.2 with ⟨e, h0⟩ | ⟨g, cap, cur, e, _⟩
    · injection e with e1 e2 e3
      subst e1; subst e2
      have hx : xs = [] := List.length_eq_zero_iff.1 (by rw [h.1])
      subst hx
      exact run_firstCells_none w.drew _ 0 0 0
    · injection e with e1 e2 e3
      subst e1
      exact run_firstCells_some w.drew i.size n ⟨g, 0, none⟩ n n xs (by rw [hz1]; exact h.1) (fun j u hj => by simpa using h.cells (g := g) rfl j u hj)
  have hr := run_append_grow_src (P := Try.prog) w 28 28 28 101 i _ Try.underlying28 hi hz0 a n n xs hold (.slice (some ⟨a0, 0, none⟩) 1 1) 1 _ hsrc (by omega) (by omega) (growslice_fits (by omega) (by rw [hz2]; omega))
  refine ⟨_, _, hr, ?_, (Below.refl _ w).drew.alloc (Nat.le_refl _) _⟩
  have hge := grownCap_ge w (n + 1) n 101
  have hlen : (xs ++ [u0, u1, u2, u3]).length = (n + 1) * 4 := by rw [List.length_append, h.1]; simp; omega
  refine ⟨hlen, .inr ⟨w.heap.size, _, _, rfl, hb, heap_alloc_new w.drew _, hge, grownCap_le_maxLen w (n + 1) n 101 (by unfold maxLen; omega), ?_, ?_⟩⟩
  · rw [Array.size_append, List.size_toArray, hlen, size_zeroCells]
    show (n + 1) * 4 + (grownCap w (n + 1) n 101 - (n + 1)) * 4 = _
    omega
  · rw [Array.toList_append, ← hlen]
    exact List.take_left
theorem row_low {w : World} {base base' e sz n : Nat} {v : Value} {xs : List Value} (h : w.ownsRow base e sz v n xs) (hb : base' ≤ base) : w.ownsRow base' e sz v n xs := by
  refine ⟨h.1, ?_⟩
  rcases h.2 with q | ⟨g, cap, cur, q1, q2, q3⟩
  · exact Or.inl q
  · exact Or.inr ⟨g, cap, cur, q1, Nat.le_trans hb q2, q3⟩
/- behind change: the names are laid -/
theorem rd_names {base b : Nat} {r : Rl} {d : Dk} {w w1 : World} {c : Ch} {v : Value} (h : RD base b r d w) (ho : ON w (c.on d.names) v w1) : RD base b { r with nv := v } { d with names := c.on d.names } (w1.setCell ⟨b, 1, none⟩ v) ∧ Ev ET base w (w1.setCell ⟨b, 1, none⟩ v) := by
  have h1 := h.below ho.2
  have hk : ∀ k, k < w1.heap.size → k ≠ b → (w1.setCell ⟨b, 1, none⟩ v).heap[k]? = w1.heap[k]? := fun k _ hn => set_ne hn _
  refine ⟨rd_own h1 hk (Nat.le_of_eq (size_set _ _).symm) (set_at (i := 1) h1.disk _) rfl rfl (row_own h1 hk (row_low ho.1 h.hb) (by decide)) (row_own h1 hk h1.ls (by decide)) (row_own h1 hk h1.op (by decide)) (row_own h1 hk h1.pl (by decide)) h.left (rise_on h.rn c) h.rl, (Ev.of_below ho.2).trans (ev_disk h1 _)⟩
theorem rc_one (c : Ch) : ∀ u ∈ rcCells c, u.oneCell' = true := by
  intro u hu
  cases c <;> (simp only [rcCells, List.mem_cons, List.not_mem_nil, or_false] at hu; rcases hu with rfl | rfl | rfl | rfl <;> rfl)
theorem rc_four (c : Ch) : ∃ u0 u1 u2 u3, rcCells c = [u0, u1, u2, u3] := by cases c <;> exact ⟨_, _, _, _, rfl⟩
/- behind the append: the change is laid -/
theorem rd_opens {base b : Nat} {r : Rl} {d : Dk} {w w1 w2 : World} {c : Ch} {v : Value} (h : RD base b r d w) (hb : Below w.heap.size w w1) (h2 : Below w1.heap.size w1 w2) (ho : w2.ownsRow base 101 4 v (d.opens.length + 1) (d.opens.flatMap rcCells ++ rcCells c)) : RD base b { r with ov := v } { d with opens := d.opens ++ [c] } (w2.setCell ⟨b, 3, none⟩ v) ∧ Ev ET base w (w2.setCell ⟨b, 3, none⟩ v) := by
  have h0 := hb.trans (h2.mono hb.size)
  have h1 := h.below h0
  have hk : ∀ k, k < w2.heap.size → k ≠ b → (w2.setCell ⟨b, 3, none⟩ v).heap[k]? = w2.heap[k]? := fun k _ hn => set_ne hn _
  refine ⟨rd_own h1 hk (Nat.le_of_eq (size_set _ _).symm) (set_at (i := 3) h1.disk _) rfl rfl (row_own h1 hk h1.nm (by decide)) (row_own h1 hk h1.ls (by decide)) ?_ (row_own h1 hk h1.pl (by decide)) h.left h.rn h.rl, (Ev.of_below h0).trans (ev_disk h1 _)⟩
  have e1 : (d.opens ++ [c]).length = d.opens.length + 1 := by simp
  have e2 : (d.opens ++ [c]).flatMap rcCells = d.opens.flatMap rcCells ++ rcCells c := by simp
  show (w2.setCell ⟨b, 3, none⟩ v).ownsRow base 101 4 v (d.opens ++ [c]).length ((d.opens ++ [c]).flatMap rcCells)
  rw [e1, e2]
  exact row_own h1 hk ho (by decide)
set_option maxHeartbeats 4000000 in
set_option maxRecDepth 100000 in
theorem rturn_call (base b : Nat) (r : Rl) (d : Dk) (c : Ch) (w : World) (h : RD base b r d w) (hn : d.names.length < 1099511627776) (hop : d.opens.length < 1099511627776) :
    Calls Try.prog 60 #[ptr b, rcV c] w fun e w' => e = .returned (.tuple #[]) ∧ RHas base b (d.turn c) w' ∧ Ev ET base w w' := by
  obtain ⟨u0, u1, u2, u3, hu⟩ := rc_four c
  obtain ⟨b0, bx⟩ := box4 w u0 u1 u2 u3 101
  obtain ⟨W0, hW0⟩ : ∃ W0, W0 = w.alloc (.cells #[u0, u1, u2, u3] 101) := ⟨_, rfl⟩
  have hbk : W0.heap[w.heap.size]? = some (.cells #[u0, u1, u2, u3] 101 (0, 0)) := by rw [hW0]; exact heap_alloc_new w _
  rw [← hW0] at b0 bx
  have hrc : rcV c = .agg #[u0, u1, u2, u3] := by unfold rcV; rw [hu]
  have HD0 := hid_of (h.below b0)
  have c1 : W0.cell? ⟨b, 1, none⟩ = some r.nv := HD0.out.cell 1
  have z1 := HD0.out.frozen 1
  obtain ⟨an, cn, hnv, _⟩ := nm_row h.nm
  rw [hnv] at c1
  have H57 := hid_of (fun W (hW : Below W0.heap.size W0 W) => rchange_call r.nv d.names c W (nm_row (h.below (b0.trans (hW.mono b0.size))).nm) hn h.rn)
  rw [hrc, hnv] at H57
  obtain ⟨i0, i1, i2, i3⟩ := bx W0 (Below.refl _ _)
  have BX := hid_of bx
  have B0 := hid_of b0
  have H1 : Hid (∀ u ∈ [u0, u1, u2, u3], u.oneCell' = true) := by rw [← hu]; exact rc_one c
  have HU := hid_of hu
  have HBK := hid_of hbk
  rw [hrc]
  clear h hu hbk bx b0 hrc hnv
  unfold ptr
  go_enter Try.func60, Try.ntmps60
  go_wp2_with fail
  rw [← hW0]
  have HW0 := hid_of hW0
  clear hW0
  go_region_with (first | (go_at_call 57; refine Calls.mono (H57.out _ ?_) ?_; exact ⟨rfl, rfl, rfl, Nat.le_refl _, fun _ _ => rfl⟩; rintro e w1 ⟨v1, rfl, o1⟩; have O1 : Hid (ON W0 (c.on d.names) v1 w1) := on_low o1 (bd1 W0); clear o1; obtain ⟨a1, k1, hv1, _⟩ := on_sl O1.out; subst hv1; have HD1 := hid_of (HD0.out.below O1.out.2); have q1 : w1.cell? ⟨b, 1, none⟩ = some r.nv := HD1.out.cell 1; have y1 : w1.frozen? ⟨b, 1, none⟩ = false := HD1.out.frozen 1))
  all_goals (
    obtain ⟨hdn, evn⟩ := rd_names HD0.out O1.out
    obtain ⟨V, hV⟩ : ∃ V, V = w1.setCell ⟨b, 1, none⟩ (.slice a1 (c.on d.names).length k1) := ⟨_, rfl⟩
    rw [← hV] at hdn evn ⊢
    have hbV : V.heap[w.heap.size]? = some (.cells #[u0, u1, u2, u3] 101 (0, 0)) := by
      rw [hV, set_ne (fun e => ?_)]
      · exact (O1.out.2.block _ (lt_of HBK.out)).trans HBK.out
      · have := HD0.out.disk
        rw [← e, HBK.out] at this
        injection this with this
        injection this with _ q
        cases q
    obtain ⟨ao, co, hov⟩ := row_shape hdn.op
    have hov' : r.ov = .slice ao d.opens.length co := hov
    have hdA := (hdn.below (bd1 V)).below ((Below.refl V.drew.heap.size V.drew).alloc (Nat.le_refl _) (.cells #[u0, u1, u2, u3] 101))
    have hopA := hdA.op
    rw [hov] at hopA
    obtain ⟨c5, w5, hr, hown5, hb5⟩ := append_rc base (V.drew.alloc (.cells #[u0, u1, u2, u3] 101)) ao d.opens.length co _ V.heap.size u0 u1 u2 u3 hopA hop hdA.hb (heap_alloc_new V.drew _) (H1.out _ (by simp)) (H1.out _ (by simp)) (H1.out _ (by simp)) (H1.out _ (by simp))
    have hbA : Below V.heap.size V (V.drew.alloc (.cells #[u0, u1, u2, u3] 101)) := (bd1 V).alloc (Nat.le_refl _) _
    obtain ⟨g5, hg5⟩ : ∃ g5, g5 = (V.drew.alloc (.cells #[u0, u1, u2, u3] 101)).heap.size := ⟨_, rfl⟩
    rw [← hg5] at hr hown5
    have hE := rd_opens (c := c) hdn hbA hb5 (by rw [HU.out]; exact hown5)
    have HE := hid_of (And.intro hE.1 (((Ev.of_below (T := ET) (base := base) B0.out).trans evn).trans hE.2))
    have p0 : V.drew.cell? ⟨w.heap.size, 0, none⟩ = some u0 := Lib.cell_of_heap hbV 0
    have p1 : V.drew.cell? ⟨w.heap.size, 1, none⟩ = some u1 := Lib.cell_of_heap hbV 1
    have p2 : V.drew.cell? ⟨w.heap.size, 2, none⟩ = some u2 := Lib.cell_of_heap hbV 2
    have p3 : V.drew.cell? ⟨w.heap.size, 3, none⟩ = some u3 := Lib.cell_of_heap hbV 3
    have v0 : V.cell? ⟨w.heap.size, 0, none⟩ = some u0 := Lib.cell_of_heap hbV 0
    have v1 : V.cell? ⟨w.heap.size, 1, none⟩ = some u1 := Lib.cell_of_heap hbV 1
    have v2 : V.cell? ⟨w.heap.size, 2, none⟩ = some u2 := Lib.cell_of_heap hbV 2
    have v3 : V.cell? ⟨w.heap.size, 3, none⟩ = some u3 := Lib.cell_of_heap hbV 3
    have cv : V.drew.cell? ⟨b, 3, none⟩ = some (.slice ao d.opens.length co) := by rw [← hov']; exact hdn.cell 3
    have cv1 : V.cell? ⟨b, 3, none⟩ = some (.slice ao d.opens.length co) := by rw [← hov']; exact hdn.cell 3
    have cv2 : (V.alloc (.cells #[u0, u1, u2, u3] 101)).cell? ⟨b, 3, none⟩ = some (.slice ao d.opens.length co) := (World.cell?_alloc_lt _ _ _ (lt_of hdn.disk)).trans cv1
    have cv3 : (V.drew.alloc (.cells #[u0, u1, u2, u3] 101)).cell? ⟨b, 3, none⟩ = some (.slice ao d.opens.length co) := cv2
    have d5 := (hdn.below (hbA.trans (hb5.mono hbA.size)))
    have c5b : w5.cell? ⟨b, 3, none⟩ = some (.slice ao d.opens.length co) := by rw [← hov']; exact d5.cell 3
    have f5 : w5.frozen? ⟨b, 3, none⟩ = false := d5.frozen 3
    have hb5x : w5.heap[w.heap.size]? = some (.cells #[u0, u1, u2, u3] 101 (0, 0)) := ((hbA.trans (hb5.mono hbA.size)).block _ (lt_of hbV)).trans hbV
    have x0 : w5.cell? ⟨w.heap.size, 0, none⟩ = some u0 := Lib.cell_of_heap hb5x 0
    have x1 : w5.cell? ⟨w.heap.size, 1, none⟩ = some u1 := Lib.cell_of_heap hb5x 1
    have x2 : w5.cell? ⟨w.heap.size, 2, none⟩ = some u2 := Lib.cell_of_heap hb5x 2
    have x3 : w5.cell? ⟨w.heap.size, 3, none⟩ = some u3 := Lib.cell_of_heap hb5x 3
    have hne5 : b ≠ w.heap.size := fun e => by
      have := hdn.disk
      rw [e, hbV] at this
      injection this with this
      injection this with _ q
      cases q
    have hnew : w.heap.size ≠ V.heap.size := by have := lt_of hbV; omega
    have hcap : (d.opens.length : Int) ≤ (co : Int) := by
      rcases hdn.op.2 with ⟨e, q⟩ | ⟨g, cap, cur, e, _, _, q, _⟩
      · rw [hov] at e; injection e with _ _ e3; rw [e3]; have : d.opens.length = 0 := q; omega
      · rw [hov] at e; injection e with _ _ e3; have : d.opens.length ≤ cap := q; omega
    have hsl : ∀ W, (Instr.slice 28 (.slice ao d.opens.length co) none (some (.int .i64 (d.opens.length : Int))) (some (.int .i64 (d.opens.length : Int)))).run Try.prog W = .ok (.slice ao d.opens.length d.opens.length) W := by
      intro W
      rw [run_slice_hm (P := Try.prog) W 28 ao d.opens.length co und28 .i64 .i64 (d.opens.length : Int) (d.opens.length : Int) (by omega) (by omega) hcap, el28, size101]
      unfold sliced
      cases ao with
      | none => simp
      | some a => simp [Addr.add]
    clear hdn evn hE hbV hb5x hov hov' hdA hopA hown5 hb5 hbA d5 O1 HD1 q1 y1 c1 z1 i0 i1 i2 i3 hcap hV hg5
    go_wp2_with fail
    clear hne5 hnew H57 BX H1 HU HBK HW0 HD0 B0 hn hop
    have pa0 : (V.drew.alloc (.cells #[u0, u1, u2, u3] 101)).cell? ⟨w.heap.size, 0, none⟩ = some u0 := (World.cell?_alloc_lt _ _ _ (World.block_lt_of_cell? _ _ p0)).trans p0
    have pa1 : (V.drew.alloc (.cells #[u0, u1, u2, u3] 101)).cell? ⟨w.heap.size, 1, none⟩ = some u1 := (World.cell?_alloc_lt _ _ _ (World.block_lt_of_cell? _ _ p1)).trans p1
    have pa2 : (V.drew.alloc (.cells #[u0, u1, u2, u3] 101)).cell? ⟨w.heap.size, 2, none⟩ = some u2 := (World.cell?_alloc_lt _ _ _ (World.block_lt_of_cell? _ _ p2)).trans p2
    have pa3 : (V.drew.alloc (.cells #[u0, u1, u2, u3] 101)).cell? ⟨w.heap.size, 3, none⟩ = some u3 := (World.cell?_alloc_lt _ _ _ (World.block_lt_of_cell? _ _ p3)).trans p3
    refine Last.start (fun W => W.cell? ⟨b, 3, none⟩ = some (.slice ao d.opens.length co) ∧ W.cell? ⟨w.heap.size, 0, none⟩ = some u0 ∧ W.cell? ⟨w.heap.size, 1, none⟩ = some u1 ∧ W.cell? ⟨w.heap.size, 2, none⟩ = some u2 ∧ W.cell? ⟨w.heap.size, 3, none⟩ = some u3) 21 (by kernel_rfl) ?_
    have hs0 : (fun W => W.cell? ⟨b, 3, none⟩ = some (.slice ao d.opens.length co) ∧ W.cell? ⟨w.heap.size, 0, none⟩ = some u0 ∧ W.cell? ⟨w.heap.size, 1, none⟩ = some u1 ∧ W.cell? ⟨w.heap.size, 2, none⟩ = some u2 ∧ W.cell? ⟨w.heap.size, 3, none⟩ = some u3) V.drew := ⟨cv, p0, p1, p2, p3⟩
    refine Last.take (i := 0) (v := .pointer (some ⟨b, 0, none⟩)) rfl (by kernel_rfl) (by kernel_rfl) (by kernel_rfl) (by kernel_rfl) (by decide) (fun _ _ _ h => h) (Or.inl ⟨by rfl, ?_⟩) (by assumption) ?_
    · intro W hSW
      obtain ⟨s0, s1, s2, s3, s4⟩ := hSW
      go_simp
    simp only [Act.put, List.setIfInBounds_toArray, List.set_cons_zero, List.set_cons_succ]
    refine Last.take (i := 1) (v := .pointer (some ⟨b, 0, none⟩)) rfl (by kernel_rfl) (by kernel_rfl) (by kernel_rfl) (by kernel_rfl) (by decide) (fun _ _ _ h => h) (Or.inl ⟨by rfl, ?_⟩) (by assumption) ?_
    · intro W hSW
      obtain ⟨s0, s1, s2, s3, s4⟩ := hSW
      go_simp
    simp only [Act.put, List.setIfInBounds_toArray, List.set_cons_zero, List.set_cons_succ]
    refine Last.take (i := 2) (v := .pointer (some ⟨b, 0, none⟩)) rfl (by kernel_rfl) (by kernel_rfl) (by kernel_rfl) (by kernel_rfl) (by decide) (fun _ _ _ h => h) (Or.inl ⟨by rfl, ?_⟩) (by assumption) ?_
    · intro W hSW
      obtain ⟨s0, s1, s2, s3, s4⟩ := hSW
      go_simp
    simp only [Act.put, List.setIfInBounds_toArray, List.set_cons_zero, List.set_cons_succ]
    refine Last.take (i := 3) (v := .pointer (some ⟨b, 3, none⟩)) rfl (by kernel_rfl) (by kernel_rfl) (by kernel_rfl) (by kernel_rfl) (by decide) (fun _ _ _ h => h) (Or.inl ⟨by rfl, ?_⟩) (by assumption) ?_
    · intro W hSW
      obtain ⟨s0, s1, s2, s3, s4⟩ := hSW
      go_simp
    simp only [Act.put, List.setIfInBounds_toArray, List.set_cons_zero, List.set_cons_succ]
    refine Last.take (i := 4) (v := .slice ao d.opens.length co) rfl (by kernel_rfl) (by kernel_rfl) (by kernel_rfl) (by kernel_rfl) (by decide) (fun _ _ _ h => h) (Or.inl ⟨by rfl, ?_⟩) (by assumption) ?_
    · intro W hSW
      obtain ⟨s0, s1, s2, s3, s4⟩ := hSW
      go_simp
    simp only [Act.put, List.setIfInBounds_toArray, List.set_cons_zero, List.set_cons_succ]
    refine Last.take (i := 5) (v := .pointer (some ⟨b, 0, none⟩)) rfl (by kernel_rfl) (by kernel_rfl) (by kernel_rfl) (by kernel_rfl) (by decide) (fun _ _ _ h => h) (Or.inl ⟨by rfl, ?_⟩) (by assumption) ?_
    · intro W hSW
      obtain ⟨s0, s1, s2, s3, s4⟩ := hSW
      go_simp
    simp only [Act.put, List.setIfInBounds_toArray, List.set_cons_zero, List.set_cons_succ]
    refine Last.take (i := 6) (v := .pointer (some ⟨b, 0, none⟩)) rfl (by kernel_rfl) (by kernel_rfl) (by kernel_rfl) (by kernel_rfl) (by decide) (fun _ _ _ h => h) (Or.inl ⟨by rfl, ?_⟩) (by assumption) ?_
    · intro W hSW
      obtain ⟨s0, s1, s2, s3, s4⟩ := hSW
      go_simp
    simp only [Act.put, List.setIfInBounds_toArray, List.set_cons_zero, List.set_cons_succ]
    refine Last.take (i := 7) (v := .pointer (some ⟨b, 3, none⟩)) rfl (by kernel_rfl) (by kernel_rfl) (by kernel_rfl) (by kernel_rfl) (by decide) (fun _ _ _ h => h) (Or.inl ⟨by rfl, ?_⟩) (by assumption) ?_
    · intro W hSW
      obtain ⟨s0, s1, s2, s3, s4⟩ := hSW
      go_simp
    simp only [Act.put, List.setIfInBounds_toArray, List.set_cons_zero, List.set_cons_succ]
    refine Last.take (i := 8) (v := .slice ao d.opens.length co) rfl (by kernel_rfl) (by kernel_rfl) (by kernel_rfl) (by kernel_rfl) (by decide) (fun _ _ _ h => h) (Or.inl ⟨by rfl, ?_⟩) (by assumption) ?_
    · intro W hSW
      obtain ⟨s0, s1, s2, s3, s4⟩ := hSW
      go_simp
    simp only [Act.put, List.setIfInBounds_toArray, List.set_cons_zero, List.set_cons_succ]
    refine Last.take (i := 9) (v := .int .i64 (d.opens.length : Int)) rfl (by kernel_rfl) (by kernel_rfl) (by kernel_rfl) (by kernel_rfl) (by decide) (fun _ _ _ h => h) (Or.inl ⟨by rfl, ?_⟩) (by assumption) ?_
    · intro W hSW
      obtain ⟨s0, s1, s2, s3, s4⟩ := hSW
      go_simp
    simp only [Act.put, List.setIfInBounds_toArray, List.set_cons_zero, List.set_cons_succ]
    refine Last.take (i := 10) (v := .pointer (some ⟨b, 0, none⟩)) rfl (by kernel_rfl) (by kernel_rfl) (by kernel_rfl) (by kernel_rfl) (by decide) (fun _ _ _ h => h) (Or.inl ⟨by rfl, ?_⟩) (by assumption) ?_
    · intro W hSW
      obtain ⟨s0, s1, s2, s3, s4⟩ := hSW
      go_simp
    simp only [Act.put, List.setIfInBounds_toArray, List.set_cons_zero, List.set_cons_succ]
    refine Last.take (i := 11) (v := .pointer (some ⟨b, 0, none⟩)) rfl (by kernel_rfl) (by kernel_rfl) (by kernel_rfl) (by kernel_rfl) (by decide) (fun _ _ _ h => h) (Or.inl ⟨by rfl, ?_⟩) (by assumption) ?_
    · intro W hSW
      obtain ⟨s0, s1, s2, s3, s4⟩ := hSW
      go_simp
    simp only [Act.put, List.setIfInBounds_toArray, List.set_cons_zero, List.set_cons_succ]
    refine Last.take (i := 12) (v := .pointer (some ⟨b, 3, none⟩)) rfl (by kernel_rfl) (by kernel_rfl) (by kernel_rfl) (by kernel_rfl) (by decide) (fun _ _ _ h => h) (Or.inl ⟨by rfl, ?_⟩) (by assumption) ?_
    · intro W hSW
      obtain ⟨s0, s1, s2, s3, s4⟩ := hSW
      go_simp
    simp only [Act.put, List.setIfInBounds_toArray, List.set_cons_zero, List.set_cons_succ]
    refine Last.take (i := 13) (v := .slice ao d.opens.length co) rfl (by kernel_rfl) (by kernel_rfl) (by kernel_rfl) (by kernel_rfl) (by decide) (fun _ _ _ h => h) (Or.inl ⟨by rfl, ?_⟩) (by assumption) ?_
    · intro W hSW
      obtain ⟨s0, s1, s2, s3, s4⟩ := hSW
      go_simp
    simp only [Act.put, List.setIfInBounds_toArray, List.set_cons_zero, List.set_cons_succ]
    refine Last.take (i := 14) (v := .int .i64 (d.opens.length : Int)) rfl (by kernel_rfl) (by kernel_rfl) (by kernel_rfl) (by kernel_rfl) (by decide) (fun _ _ _ h => h) (Or.inl ⟨by rfl, ?_⟩) (by assumption) ?_
    · intro W hSW
      obtain ⟨s0, s1, s2, s3, s4⟩ := hSW
      go_simp
    simp only [Act.put, List.setIfInBounds_toArray, List.set_cons_zero, List.set_cons_succ]
    refine Last.take (i := 15) (v := .slice ao d.opens.length d.opens.length) rfl (by kernel_rfl) (by kernel_rfl) (by kernel_rfl) (by kernel_rfl) (by decide) (fun _ _ _ h => h) (Or.inl ⟨by rfl, ?_⟩) (by assumption) ?_
    · intro W hSW
      obtain ⟨s0, s1, s2, s3, s4⟩ := hSW
      go_simp
    simp only [Act.put, List.setIfInBounds_toArray, List.set_cons_zero, List.set_cons_succ]
    refine Last.take (i := 16) (v := .agg #[u0, u1, u2, u3]) rfl (by kernel_rfl) (by kernel_rfl) (by kernel_rfl) (by kernel_rfl) (by decide) (fun _ _ _ h => h) (Or.inl ⟨by rfl, ?_⟩) (by assumption) ?_
    · intro W hSW
      obtain ⟨s0, s1, s2, s3, s4⟩ := hSW
      go_simp
    simp only [Act.put, List.setIfInBounds_toArray, List.set_cons_zero, List.set_cons_succ]
    refine Last.one (i := 17) rfl (by kernel_rfl) ?_
    intro K' hK0
    have hK := hid_of hK0
    clear hK0
    go_simp
    refine hK.out _ _ (fun _ => ⟨cv3, pa0, pa1, pa2, pa3⟩) ?_
    clear hK K'
    try simp only [Act.put, List.setIfInBounds_toArray, List.set_cons_zero, List.set_cons_succ]
    refine Last.one (i := 18) rfl (by kernel_rfl) ?_
    intro K' hK0
    have hK := hid_of hK0
    clear hK0
    refine step_eq rfl (.tmp 28) (.tmp 30) 28 28 rfl (.slice ao d.opens.length d.opens.length) (.slice (some ⟨V.heap.size, 0, none⟩) 1 1) (.slice (some ⟨g5, 0, none⟩) (d.opens.length + 1) c5) _ w5 (by first | (simp [Act.eval]; done) | simp [Act.eval, Act.put]) (by first | (simp [Act.eval]; done) | simp [Act.eval, Act.put]) hr ?_
    have hs5 : (fun W => W.cell? ⟨b, 3, none⟩ = some (.slice ao d.opens.length co) ∧ W.cell? ⟨w.heap.size, 0, none⟩ = some u0 ∧ W.cell? ⟨w.heap.size, 1, none⟩ = some u1 ∧ W.cell? ⟨w.heap.size, 2, none⟩ = some u2 ∧ W.cell? ⟨w.heap.size, 3, none⟩ = some u3) w5 := ⟨c5b, x0, x1, x2, x3⟩
    refine hK.out _ _ (fun _ => hs5) ?_
    clear hK K' hs0
    simp only [Act.put, List.setIfInBounds_toArray, List.set_cons_zero, List.set_cons_succ]
    refine Last.one (i := 19) rfl (by kernel_rfl) ?_
    intro K' hK0
    have hK := hid_of hK0
    clear hK0
    go_simp
    refine hK.out _ _ (fun _ => hs5) ?_
    clear hK K'
    try simp only [Act.put, List.setIfInBounds_toArray, List.set_cons_zero, List.set_cons_succ]
    refine Last.one (i := 20) rfl (by kernel_rfl) ?_
    intro K' hK0
    have hK := hid_of hK0
    clear hK0
    go_simp
    refine hK.out _ _ (fun _ => hs5) ?_
    clear hK K'
    try simp only [Act.put, List.setIfInBounds_toArray, List.set_cons_zero, List.set_cons_succ]
    refine Last.one (i := 21) rfl (by kernel_rfl) ?_
    intro K' hK0
    have hK := hid_of hK0
    clear hK0
    go_simp
    refine hK.out _ _ (fun h => absurd rfl h) ?_
    refine Last.fin (by kernel_rfl) ?_ _)
  all_goals (
    try go_wp2_with fail
    go_end0
    exact ⟨rfl, ⟨_, HE.out.1⟩, HE.out.2⟩)
end Go.Proofs.Ytilbffbmpgebmaa.RefTurn
