/- spare: a value with marks behind its lists. -/
import Derived.Test.YtdcnkdkhanmklabSpareM
import Derived.Test.YtdcnkdkhanmklabLastM
namespace Go.Proofs.Ytdcnkdkhanmklab.Spare
open Go.RowKit Go.Maps
open Go.Proofs.Ytdcnkdkhanmklab.SetMath
open Go.Proofs.Ytdcnkdkhanmklab.ValueMath
open Go.Proofs.Ytdcnkdkhanmklab.Base
open Go.Proofs.Ytdcnkdkhanmklab.Vals
open Go.Proofs.Ytdcnkdkhanmklab.SpareM
open Go.Proofs.Ytdcnkdkhanmklab.StepA (step_app)
set_option linter.unusedVariables false
set_option linter.unusedSimpArgs false
structure SP (B : Nat) (w : World) (x : Vl) (g1 c1 g2 c2 g3 c3 : Nat) : Prop where
  l : NR B w (.slice (some ⟨g1, 0, none⟩) (x.list.length + 1) c1) (x.list ++ [sp])
  f : FRow.OR B w (.slice (some ⟨g2, 0, none⟩) (x.fields.length + 1) c2) (x.fields ++ [(sp, [])])
  r : ERow.OR B w (.slice (some ⟨g3, 0, none⟩) (x.ranked.length + 1) c3) (x.ranked ++ [([], 77)])
def spV (x : Vl) (g1 c1 g2 c2 g3 c3 : Nat) : Value := .agg #[.int .i64 x.kind, .string (mk x.text), .slice (some ⟨g1, 0, none⟩) x.list.length c1, .slice (some ⟨g2, 0, none⟩) x.fields.length c2, .slice (some ⟨g3, 0, none⟩) x.ranked.length c3]
theorem e_nr {w : World} {b : Nat} {v : Value} {l : List El} (h : NR (b + 2) w v l) {y0 y1 y2 y3 y4 : Value} :
    NR b (((((w.setCell ⟨b + 1, 0, none⟩ y0).setCell ⟨b + 1, 1, none⟩ y1).setCell ⟨b + 1, 2, none⟩ y2).setCell ⟨b + 1, 3, none⟩ y3).setCell ⟨b + 1, 4, none⟩ y4) v l :=
  (Copy.nr_set (Copy.nr_set (Copy.nr_set (Copy.nr_set (Copy.nr_set h (by omega) y0) (by omega) y1) (by omega) y2) (by omega) y3) (by omega) y4).mono (by omega)
theorem e_row {w : World} {b e sz n : Nat} {v : Value} {xs : List Value} (h : w.ownsRow (b + 2) e sz v n xs) {y0 y1 y2 y3 y4 : Value} :
    (((((w.setCell ⟨b + 1, 0, none⟩ y0).setCell ⟨b + 1, 1, none⟩ y1).setCell ⟨b + 1, 2, none⟩ y2).setCell ⟨b + 1, 3, none⟩ y3).setCell ⟨b + 1, 4, none⟩ y4).ownsRow b e sz v n xs :=
  FRow.row_mono (Copy.row_set (Copy.row_set (Copy.row_set (Copy.row_set (Copy.row_set h (by omega) y0) (by omega) y1) (by omega) y2) (by omega) y3) (by omega) y4) (by omega)
theorem e_b {w w' : World} {b : Nat} (h : Below b w w') {y0 y1 y2 y3 y4 : Value} :
    Below b w (((((w'.setCell ⟨b + 1, 0, none⟩ y0).setCell ⟨b + 1, 1, none⟩ y1).setCell ⟨b + 1, 2, none⟩ y2).setCell ⟨b + 1, 3, none⟩ y3).setCell ⟨b + 1, 4, none⟩ y4) :=
  bset (bset (bset (bset (bset h (Nat.le_succ _) y0) (Nat.le_succ _) y1) (Nat.le_succ _) y2) (Nat.le_succ _) y3) (Nat.le_succ _) y4
set_option maxHeartbeats 8000000 in
set_option maxRecDepth 100000 in
theorem spare_call {w : World} {v : Value} {x : Vl} (h : VA w v x) (hf : Fit x) (hl16 : x.list.length * 16 ≤ 140737488355328) (hf7 : x.fields.length + 1 ≤ FRow.big) (hr9 : x.ranked.length + 1 ≤ ERow.big) :
    Calls Try.prog 4 #[v] w fun e w' => ∃ g1 c1 g2 c2 g3 c3, e = .returned (spV x g1 c1 g2 c2 g3 c3) ∧ Hid (SP w.heap.size w' x g1 c1 g2 c2 g3 c3 ∧ Below w.heap.size w w') := by
  have HC := hid_of fun (W : World) (hW : Below w.heap.size w W) => RCopy.rcopy_call (h.below hW) hf
  obtain ⟨a, b, c, rfl, h1, h2, h3⟩ := h
  obtain ⟨aa, ac, rfl, _, _⟩ := id h1
  obtain ⟨ba, bc, rfl, _, _⟩ := id h2
  obtain ⟨ca, cc, rfl, _, _⟩ := id h3
  clear h1 h2 h3 hf
  obtain ⟨xk, xt, xl, xf, xr⟩ := x
  simp only at hl16 hf7 hr9 HC ⊢
  have HA1 := hid_of fun (p : Nat) (K T a1 a2 a3 A1 A2 A3 v1 v2 v3 : Value) (W : World) (hS : St w p K T a1 a2 a3 A1 A2 A3 v1 v2 v3 xl xf xr W) => st_app1 hS hl16
  have HA2 := hid_of fun (p : Nat) (K T a1 a2 a3 A1 A2 A3 v1 v2 v3 : Value) (W : World) (hS : St w p K T a1 a2 a3 A1 A2 A3 v1 v2 v3 (xl ++ [sp]) xf xr W) => st_app2 hS hf7
  have HA3 := hid_of fun (p : Nat) (K T a1 a2 a3 A1 A2 A3 v1 v2 v3 : Value) (W : World) (hS : St w p K T a1 a2 a3 A1 A2 A3 v1 v2 v3 (xl ++ [sp]) (xf ++ [(sp, [])]) xr W) => st_app3 hS hr9
  have HC2 : Hid (∀ W, Below w.heap.size w W → Calls Try.prog 12 #[.agg #[.int .i64 xk, .string (mk xt), .slice aa xl.length ac, .slice ba xf.length bc, .slice ca xr.length cc]] W fun e w' => ∃ la lc fa fc ra rc, e = .returned (.agg #[.int .i64 xk, .string (mk xt), .slice la xl.length lc, .slice fa xf.length fc, .slice ra xr.length rc]) ∧ Hid (NR W.heap.size w' (.slice la xl.length lc) xl ∧ FRow.OR W.heap.size w' (.slice fa xf.length fc) xf ∧ ERow.OR W.heap.size w' (.slice ra xr.length rc) xr ∧ Below W.heap.size W w')) := hid_of fun W hW => (HC.out W hW).mono (by
    rintro e w1 ⟨u, rfl, n1, b1⟩
    obtain ⟨ya, yb, yc, hu, l1, f1, r1⟩ := n1
    obtain ⟨la, lc, hl1, _⟩ := l1.shape
    obtain ⟨fa, fc, hf1⟩ := shapeFRow f1
    obtain ⟨ra, rc, hr1⟩ := shapeERow r1
    subst hl1 hf1 hr1 hu
    exact ⟨la, lc, fa, fc, ra, rc, rfl, hid_of ⟨l1, f1, r1, b1⟩⟩)
  clear HC hl16 hf7 hr9
  unfold spV
  have HSP : Hid (∀ B g1 c1 g2 c2 g3 c3 w', NR B w' (.slice (some ⟨g1, 0, none⟩) (xl.length + 1) c1) (xl ++ [sp]) → FRow.OR B w' (.slice (some ⟨g2, 0, none⟩) (xf.length + 1) c2) (xf ++ [(sp, [])]) → ERow.OR B w' (.slice (some ⟨g3, 0, none⟩) (xr.length + 1) c3) (xr ++ [([], 77)]) → SP B w' ⟨xk, xt, xl, xf, xr⟩ g1 c1 g2 c2 g3 c3) := hid_of fun _ _ _ _ _ _ _ _ h1 h2 h3 => ⟨h1, h2, h3⟩
  simp only
  generalize xl.length = n1 at *
  generalize xf.length = n2 at *
  generalize xr.length = n3 at *
  generalize hX : mk xt = X at *
  clear hX
  obtain ⟨V, hV⟩ : ∃ V, V = (w.alloc (.cells #[.int .i64 xk, .string X, .slice aa n1 ac, .slice ba n2 bc, .slice ca n3 cc] 26)).alloc RCopy.zB := ⟨_, rfl⟩
  have bV : Below w.heap.size w V := by rw [hV]; exact FRow.bel (FRow.bnew w _) (FRow.bnew _ _) (Nat.le_refl _)
  have sV : V.heap.size = w.heap.size + 2 := by rw [hV]; simp
  have v0 : V.heap[w.heap.size]? = some (.cells #[.int .i64 xk, .string X, .slice aa n1 ac, .slice ba n2 bc, .slice ca n3 cc] 26 (0, 0)) := by rw [hV, Lib.alloc_old _ _ _ (by simp)]; exact heap_alloc_new w _
  have v1 : V.heap[w.heap.size + 1]? = some (.cells #[.int .i64 0, .string ⟨#[]⟩, .slice none 0 0, .slice none 0 0, .slice none 0 0] 26 (0, 0)) := by
    rw [hV]
    have := heap_alloc_new (w.alloc (.cells #[.int .i64 xk, .string X, .slice aa n1 ac, .slice ba n2 bc, .slice ca n3 cc] 26)) RCopy.zB
    simpa using this
  have HV := hid_of hV
  have HB := hid_of bV
  have HSV := hid_of sV
  have HV0 := hid_of v0
  have HV1 := hid_of v1
  clear v0 v1 bV sV hV
  go_enter Try.func4, Try.ntmps4
  go_wp2_with fail
  rw [← HV.out]
  refine (HC2.out V HB.out).mono ?_
  rintro e w1 ⟨la, lc, fa, fc, ra, rc, rfl, N1⟩
  obtain ⟨W, hW⟩ : ∃ W, W = w1.alloc (.cells #[.int .i64 xk, .string X, .slice la n1 lc, .slice fa n2 fc, .slice ra n3 rc] 26) := ⟨_, rfl⟩
  have Z1 : Hid (St w w1.heap.size (.int .i64 xk) (.string X) (.slice aa n1 ac) (.slice ba n2 bc) (.slice ca n3 cc) (.slice la n1 lc) (.slice fa n2 fc) (.slice ra n3 rc) (.slice la n1 lc) (.slice fa n2 fc) (.slice ra n3 rc) xl xf xr W) := hid_of (by
    obtain ⟨l1, f1, r1, b1⟩ := N1.out
    rw [HSV.out] at l1 f1 r1 b1
    have bW : Below w1.heap.size w1 W := by rw [hW]; exact FRow.bnew w1 _
    have sz := b1.size
    have szV := HSV.out
    exact ⟨(bW.block _ (by omega)).trans ((b1.block _ (by omega)).trans HV0.out), (bW.block _ (by omega)).trans ((b1.block _ (by omega)).trans HV1.out), by rw [hW]; exact heap_alloc_new w1 _, by omega, l1.below bW, FRow.row_below f1 bW, FRow.row_below r1 bW, FRow.bel (HB.out.trans (b1.mono (by omega))) bW (Nat.le_refl _)⟩)
  have HW := hid_of hW
  clear hW N1 HC2 HV0 HV1 HSV HB
  go_wp2_with fail
  rw [← HW.out]
  have ZD1 := hid_of Z1.out.drew
  refine Last.start (fun U => U.cell? ⟨w.heap.size, 2, none⟩ = some (.slice aa n1 ac) ∧ U.cell? ⟨w1.heap.size, 2, none⟩ = some (.slice la n1 lc)) 9 (by kernel_rfl) ?_
  have hs0 : (fun U => U.cell? ⟨w.heap.size, 2, none⟩ = some (.slice aa n1 ac) ∧ U.cell? ⟨w1.heap.size, 2, none⟩ = some (.slice la n1 lc)) W.drew := ⟨(box5 ZD1.out.b0).1.2.2.1, (box5 ZD1.out.bp).1.2.2.1⟩
  have hs1 : ∀ o, (fun U => U.cell? ⟨w.heap.size, 2, none⟩ = some (.slice aa n1 ac) ∧ U.cell? ⟨w1.heap.size, 2, none⟩ = some (.slice la n1 lc)) (W.drew.alloc o) := fun o => ⟨(box5 (ZD1.out.grow (FRow.bnew _ o)).b0).1.2.2.1, (box5 (ZD1.out.grow (FRow.bnew _ o)).bp).1.2.2.1⟩
  refine Last.take2 12 (i := 0) (v := .pointer (some ⟨w1.heap.size, 2, none⟩)) rfl (by kernel_rfl) (by kernel_rfl) (by kernel_rfl) (by kernel_rfl) (by kernel_rfl) (fun _ _ _ h => h) (Or.inl ⟨by rfl, ?_⟩) (by assumption) ?_
  · intro W hSW
    obtain ⟨s0, s1⟩ := hSW
    go_simp
  simp only [Act.put, List.setIfInBounds_toArray, List.set_cons_zero, List.set_cons_succ]
  refine Last.take2 12 (i := 1) (v := .slice la n1 lc) rfl (by kernel_rfl) (by kernel_rfl) (by kernel_rfl) (by kernel_rfl) (by kernel_rfl) (fun _ _ _ h => h) (Or.inl ⟨by rfl, ?_⟩) (by assumption) ?_
  · intro W hSW
    obtain ⟨s0, s1⟩ := hSW
    go_simp
  simp only [Act.put, List.setIfInBounds_toArray, List.set_cons_zero, List.set_cons_succ]
  refine Last.take2 12 (i := 4) (v := .pointer (some ⟨w.heap.size, 2, none⟩)) rfl (by kernel_rfl) (by kernel_rfl) (by kernel_rfl) (by kernel_rfl) (by kernel_rfl) (fun _ _ _ h => h) (Or.inl ⟨by rfl, ?_⟩) (by assumption) ?_
  · intro W hSW
    obtain ⟨s0, s1⟩ := hSW
    go_simp
  simp only [Act.put, List.setIfInBounds_toArray, List.set_cons_zero, List.set_cons_succ]
  refine Last.take2 12 (i := 5) (v := .slice aa n1 ac) rfl (by kernel_rfl) (by kernel_rfl) (by kernel_rfl) (by kernel_rfl) (by kernel_rfl) (fun _ _ _ h => h) (Or.inl ⟨by rfl, ?_⟩) (by assumption) ?_
  · intro W hSW
    obtain ⟨s0, s1⟩ := hSW
    go_simp
  simp only [Act.put, List.setIfInBounds_toArray, List.set_cons_zero, List.set_cons_succ]
  refine Last.take2 12 (i := 6) (v := .int .i64 n1) rfl (by kernel_rfl) (by kernel_rfl) (by kernel_rfl) (by kernel_rfl) (by kernel_rfl) (fun _ _ _ h => h) (Or.inl ⟨by rfl, ?_⟩) (by assumption) ?_
  · intro W hSW
    obtain ⟨s0, s1⟩ := hSW
    go_simp
  simp only [Act.put, List.setIfInBounds_toArray, List.set_cons_zero, List.set_cons_succ]
  refine Last.one (i := 2) rfl (by kernel_rfl) ?_
  intro K' hK0
  have hK := hid_of hK0
  clear hK0
  go_simp
  refine hK.out _ _ (fun _ => hs1 _) ?_
  clear hK K'
  try simp only [Act.put, List.setIfInBounds_toArray, List.set_cons_zero, List.set_cons_succ]
  refine Last.one (i := 3) rfl (by kernel_rfl) ?_
  intro K' hK0
  have hK := hid_of hK0
  clear hK0
  refine step_app (by rfl) _ _ 22 22 (by rfl) (.slice la n1 lc) (.slice (some ⟨W.drew.heap.size, 0, none⟩) 1 1) _ (by rfl) (by rfl) (HA1.out _ _ _ _ _ _ _ _ _ _ _ _ _ ZD1.out) ?_
  rintro v4 w4 ⟨g1, c1, rfl, hc1, Y1⟩
  have hs4 : (fun U => U.cell? ⟨w.heap.size, 2, none⟩ = some (.slice aa n1 ac) ∧ U.cell? ⟨w1.heap.size, 2, none⟩ = some (.slice la n1 lc)) w4 := ⟨(box5 Y1.out.b0).1.2.2.1, (box5 Y1.out.bp).1.2.2.1⟩
  refine hK.out _ _ (fun _ => hs4) ?_
  clear hK K'
  try simp only [Act.put, List.setIfInBounds_toArray, List.set_cons_zero, List.set_cons_succ]
  have hcut := cut_hi (some ⟨g1, 0, none⟩) (n1 + 1) c1 n1 n1 rfl hc1 w4
  refine Last.one (i := 7) rfl (by kernel_rfl) ?_
  intro K' hK0
  have hK := hid_of hK0
  clear hK0
  go_simp
  refine hK.out _ _ (fun _ => hs4) ?_
  clear hK K'
  try simp only [Act.put, List.setIfInBounds_toArray, List.set_cons_zero, List.set_cons_succ]
  refine Last.one (i := 8) rfl (by kernel_rfl) ?_
  intro K' hK0
  have hK := hid_of hK0
  clear hK0
  go_simp
  refine hK.out _ _ (fun _ => hs4) ?_
  clear hK K'
  try simp only [Act.put, List.setIfInBounds_toArray, List.set_cons_zero, List.set_cons_succ]
  clear hcut
  have hfz := (box5 Y1.out.bp).2 2
  have hcl := hs4.2
  refine Last.one (i := 9) rfl (by kernel_rfl) ?_
  intro K' hK0
  have hK := hid_of hK0
  clear hK0
  go_simp
  refine hK.out _ _ (fun h => absurd rfl h) ?_
  clear hK K' hfz hcl hs4 hs0 hs1
  refine Last.fin (by kernel_rfl) ?_ _
  have Z2 := hid_of (Y1.out.set1 (.slice (some ⟨g1, 0, none⟩) n1 c1))
  clear Y1 ZD1 Z1
  obtain ⟨W1, hW1⟩ : ∃ W, W = w4.setCell ⟨w1.heap.size, 2, none⟩ (.slice (some ⟨g1, 0, none⟩) n1 c1) := ⟨_, rfl⟩
  rw [← hW1] at Z2
  have HW1 := hid_of hW1
  clear hW1
  go_wp2_with fail
  rw [← HW1.out]
  have ZD2 := hid_of Z2.out.drew
  refine Last.start (fun U => U.cell? ⟨w.heap.size, 3, none⟩ = some (.slice ba n2 bc) ∧ U.cell? ⟨w1.heap.size, 3, none⟩ = some (.slice fa n2 fc)) 10 (by kernel_rfl) ?_
  have hs0 : (fun U => U.cell? ⟨w.heap.size, 3, none⟩ = some (.slice ba n2 bc) ∧ U.cell? ⟨w1.heap.size, 3, none⟩ = some (.slice fa n2 fc)) W1.drew := ⟨(box5 ZD2.out.b0).1.2.2.2.1, (box5 ZD2.out.bp).1.2.2.2.1⟩
  have hs1 : ∀ o, (fun U => U.cell? ⟨w.heap.size, 3, none⟩ = some (.slice ba n2 bc) ∧ U.cell? ⟨w1.heap.size, 3, none⟩ = some (.slice fa n2 fc)) (W1.drew.alloc o) := fun o => ⟨(box5 (ZD2.out.grow (FRow.bnew _ o)).b0).1.2.2.2.1, (box5 (ZD2.out.grow (FRow.bnew _ o)).bp).1.2.2.2.1⟩
  refine Last.take2 12 (i := 0) (v := .pointer (some ⟨w1.heap.size, 3, none⟩)) rfl (by kernel_rfl) (by kernel_rfl) (by kernel_rfl) (by kernel_rfl) (by kernel_rfl) (fun _ _ _ h => h) (Or.inl ⟨by rfl, ?_⟩) (by assumption) ?_
  · intro W hSW
    obtain ⟨s0, s1⟩ := hSW
    go_simp
  simp only [Act.put, List.setIfInBounds_toArray, List.set_cons_zero, List.set_cons_succ]
  refine Last.take2 12 (i := 1) (v := .slice fa n2 fc) rfl (by kernel_rfl) (by kernel_rfl) (by kernel_rfl) (by kernel_rfl) (by kernel_rfl) (fun _ _ _ h => h) (Or.inl ⟨by rfl, ?_⟩) (by assumption) ?_
  · intro W hSW
    obtain ⟨s0, s1⟩ := hSW
    go_simp
  simp only [Act.put, List.setIfInBounds_toArray, List.set_cons_zero, List.set_cons_succ]
  refine Last.take2 12 (i := 2) (v := .agg #[.string ⟨#[115, 112, 97, 114, 101]⟩, .string ⟨#[]⟩]) rfl (by kernel_rfl) (by kernel_rfl) (by kernel_rfl) (by kernel_rfl) (by kernel_rfl) (fun _ _ _ h => h) (Or.inl ⟨by rfl, ?_⟩) (by assumption) ?_
  · intro W hSW
    obtain ⟨s0, s1⟩ := hSW
    go_simp
  simp only [Act.put, List.setIfInBounds_toArray, List.set_cons_zero, List.set_cons_succ]
  refine Last.take2 12 (i := 5) (v := .pointer (some ⟨w.heap.size, 3, none⟩)) rfl (by kernel_rfl) (by kernel_rfl) (by kernel_rfl) (by kernel_rfl) (by kernel_rfl) (fun _ _ _ h => h) (Or.inl ⟨by rfl, ?_⟩) (by assumption) ?_
  · intro W hSW
    obtain ⟨s0, s1⟩ := hSW
    go_simp
  simp only [Act.put, List.setIfInBounds_toArray, List.set_cons_zero, List.set_cons_succ]
  refine Last.take2 12 (i := 6) (v := .slice ba n2 bc) rfl (by kernel_rfl) (by kernel_rfl) (by kernel_rfl) (by kernel_rfl) (by kernel_rfl) (fun _ _ _ h => h) (Or.inl ⟨by rfl, ?_⟩) (by assumption) ?_
  · intro W hSW
    obtain ⟨s0, s1⟩ := hSW
    go_simp
  simp only [Act.put, List.setIfInBounds_toArray, List.set_cons_zero, List.set_cons_succ]
  refine Last.take2 12 (i := 7) (v := .int .i64 n2) rfl (by kernel_rfl) (by kernel_rfl) (by kernel_rfl) (by kernel_rfl) (by kernel_rfl) (fun _ _ _ h => h) (Or.inl ⟨by rfl, ?_⟩) (by assumption) ?_
  · intro W hSW
    obtain ⟨s0, s1⟩ := hSW
    go_simp
  simp only [Act.put, List.setIfInBounds_toArray, List.set_cons_zero, List.set_cons_succ]
  refine Last.one (i := 3) rfl (by kernel_rfl) ?_
  intro K' hK0
  have hK := hid_of hK0
  clear hK0
  go_simp
  refine hK.out _ _ (fun _ => hs1 _) ?_
  clear hK K'
  try simp only [Act.put, List.setIfInBounds_toArray, List.set_cons_zero, List.set_cons_succ]
  refine Last.one (i := 4) rfl (by kernel_rfl) ?_
  intro K' hK0
  have hK := hid_of hK0
  clear hK0
  refine step_app (by rfl) _ _ 23 23 (by rfl) (.slice fa n2 fc) (.slice (some ⟨W1.drew.heap.size, 0, none⟩) 1 1) _ (by rfl) (by rfl) (HA2.out _ _ _ _ _ _ _ _ _ _ _ _ _ ZD2.out) ?_
  rintro v4 w5 ⟨g2, c2, rfl, hc2, Y2⟩
  have hs4 : (fun U => U.cell? ⟨w.heap.size, 3, none⟩ = some (.slice ba n2 bc) ∧ U.cell? ⟨w1.heap.size, 3, none⟩ = some (.slice fa n2 fc)) w5 := ⟨(box5 Y2.out.b0).1.2.2.2.1, (box5 Y2.out.bp).1.2.2.2.1⟩
  refine hK.out _ _ (fun _ => hs4) ?_
  clear hK K'
  try simp only [Act.put, List.setIfInBounds_toArray, List.set_cons_zero, List.set_cons_succ]
  have hcut := FRow.cut_hi (some ⟨g2, 0, none⟩) (n2 + 1) c2 n2 hc2 w5
  refine Last.one (i := 8) rfl (by kernel_rfl) ?_
  intro K' hK0
  have hK := hid_of hK0
  clear hK0
  go_simp
  refine hK.out _ _ (fun _ => hs4) ?_
  clear hK K'
  try simp only [Act.put, List.setIfInBounds_toArray, List.set_cons_zero, List.set_cons_succ]
  refine Last.one (i := 9) rfl (by kernel_rfl) ?_
  intro K' hK0
  have hK := hid_of hK0
  clear hK0
  go_simp
  refine hK.out _ _ (fun _ => hs4) ?_
  clear hK K'
  try simp only [Act.put, List.setIfInBounds_toArray, List.set_cons_zero, List.set_cons_succ]
  clear hcut
  have hfz := (box5 Y2.out.bp).2 3
  have hcl := hs4.2
  refine Last.one (i := 10) rfl (by kernel_rfl) ?_
  intro K' hK0
  have hK := hid_of hK0
  clear hK0
  go_simp
  refine hK.out _ _ (fun h => absurd rfl h) ?_
  clear hK K' hfz hcl hs4 hs0 hs1
  refine Last.fin (by kernel_rfl) ?_ _
  have Z3 := hid_of (Y2.out.set2 (.slice (some ⟨g2, 0, none⟩) n2 c2))
  clear Y2 ZD2 Z2
  obtain ⟨W2, hW2⟩ : ∃ W, W = w5.setCell ⟨w1.heap.size, 3, none⟩ (.slice (some ⟨g2, 0, none⟩) n2 c2) := ⟨_, rfl⟩
  rw [← hW2] at Z3
  have HW2 := hid_of hW2
  clear hW2
  go_wp2_with fail
  rw [← HW2.out]
  have ZD3 := hid_of Z3.out.drew
  refine Last.start (fun U => U.cell? ⟨w.heap.size, 4, none⟩ = some (.slice ca n3 cc) ∧ U.cell? ⟨w1.heap.size, 4, none⟩ = some (.slice ra n3 rc)) 10 (by kernel_rfl) ?_
  have hs0 : (fun U => U.cell? ⟨w.heap.size, 4, none⟩ = some (.slice ca n3 cc) ∧ U.cell? ⟨w1.heap.size, 4, none⟩ = some (.slice ra n3 rc)) W2.drew := ⟨(box5 ZD3.out.b0).1.2.2.2.2, (box5 ZD3.out.bp).1.2.2.2.2⟩
  have hs1 : ∀ o, (fun U => U.cell? ⟨w.heap.size, 4, none⟩ = some (.slice ca n3 cc) ∧ U.cell? ⟨w1.heap.size, 4, none⟩ = some (.slice ra n3 rc)) (W2.drew.alloc o) := fun o => ⟨(box5 (ZD3.out.grow (FRow.bnew _ o)).b0).1.2.2.2.2, (box5 (ZD3.out.grow (FRow.bnew _ o)).bp).1.2.2.2.2⟩
  refine Last.take2 12 (i := 0) (v := .pointer (some ⟨w1.heap.size, 4, none⟩)) rfl (by kernel_rfl) (by kernel_rfl) (by kernel_rfl) (by kernel_rfl) (by kernel_rfl) (fun _ _ _ h => h) (Or.inl ⟨by rfl, ?_⟩) (by assumption) ?_
  · intro W hSW
    obtain ⟨s0, s1⟩ := hSW
    go_simp
  simp only [Act.put, List.setIfInBounds_toArray, List.set_cons_zero, List.set_cons_succ]
  refine Last.take2 12 (i := 1) (v := .slice ra n3 rc) rfl (by kernel_rfl) (by kernel_rfl) (by kernel_rfl) (by kernel_rfl) (by kernel_rfl) (fun _ _ _ h => h) (Or.inl ⟨by rfl, ?_⟩) (by assumption) ?_
  · intro W hSW
    obtain ⟨s0, s1⟩ := hSW
    go_simp
  simp only [Act.put, List.setIfInBounds_toArray, List.set_cons_zero, List.set_cons_succ]
  refine Last.take2 12 (i := 2) (v := .agg #[.string ⟨#[]⟩, .int .i64 77]) rfl (by kernel_rfl) (by kernel_rfl) (by kernel_rfl) (by kernel_rfl) (by kernel_rfl) (fun _ _ _ h => h) (Or.inl ⟨by rfl, ?_⟩) (by assumption) ?_
  · intro W hSW
    obtain ⟨s0, s1⟩ := hSW
    go_simp
  simp only [Act.put, List.setIfInBounds_toArray, List.set_cons_zero, List.set_cons_succ]
  refine Last.take2 12 (i := 5) (v := .pointer (some ⟨w.heap.size, 4, none⟩)) rfl (by kernel_rfl) (by kernel_rfl) (by kernel_rfl) (by kernel_rfl) (by kernel_rfl) (fun _ _ _ h => h) (Or.inl ⟨by rfl, ?_⟩) (by assumption) ?_
  · intro W hSW
    obtain ⟨s0, s1⟩ := hSW
    go_simp
  simp only [Act.put, List.setIfInBounds_toArray, List.set_cons_zero, List.set_cons_succ]
  refine Last.take2 12 (i := 6) (v := .slice ca n3 cc) rfl (by kernel_rfl) (by kernel_rfl) (by kernel_rfl) (by kernel_rfl) (by kernel_rfl) (fun _ _ _ h => h) (Or.inl ⟨by rfl, ?_⟩) (by assumption) ?_
  · intro W hSW
    obtain ⟨s0, s1⟩ := hSW
    go_simp
  simp only [Act.put, List.setIfInBounds_toArray, List.set_cons_zero, List.set_cons_succ]
  refine Last.take2 12 (i := 7) (v := .int .i64 n3) rfl (by kernel_rfl) (by kernel_rfl) (by kernel_rfl) (by kernel_rfl) (by kernel_rfl) (fun _ _ _ h => h) (Or.inl ⟨by rfl, ?_⟩) (by assumption) ?_
  · intro W hSW
    obtain ⟨s0, s1⟩ := hSW
    go_simp
  simp only [Act.put, List.setIfInBounds_toArray, List.set_cons_zero, List.set_cons_succ]
  refine Last.one (i := 3) rfl (by kernel_rfl) ?_
  intro K' hK0
  have hK := hid_of hK0
  clear hK0
  go_simp
  refine hK.out _ _ (fun _ => hs1 _) ?_
  clear hK K'
  try simp only [Act.put, List.setIfInBounds_toArray, List.set_cons_zero, List.set_cons_succ]
  refine Last.one (i := 4) rfl (by kernel_rfl) ?_
  intro K' hK0
  have hK := hid_of hK0
  clear hK0
  refine step_app (by rfl) _ _ 24 24 (by rfl) (.slice ra n3 rc) (.slice (some ⟨W2.drew.heap.size, 0, none⟩) 1 1) _ (by rfl) (by rfl) (HA3.out _ _ _ _ _ _ _ _ _ _ _ _ _ ZD3.out) ?_
  rintro v4 w6 ⟨g3, c3, rfl, hc3, Y3⟩
  have hs4 : (fun U => U.cell? ⟨w.heap.size, 4, none⟩ = some (.slice ca n3 cc) ∧ U.cell? ⟨w1.heap.size, 4, none⟩ = some (.slice ra n3 rc)) w6 := ⟨(box5 Y3.out.b0).1.2.2.2.2, (box5 Y3.out.bp).1.2.2.2.2⟩
  refine hK.out _ _ (fun _ => hs4) ?_
  clear hK K'
  try simp only [Act.put, List.setIfInBounds_toArray, List.set_cons_zero, List.set_cons_succ]
  have hcut := ERow.cut_hi (some ⟨g3, 0, none⟩) (n3 + 1) c3 n3 hc3 w6
  refine Last.one (i := 8) rfl (by kernel_rfl) ?_
  intro K' hK0
  have hK := hid_of hK0
  clear hK0
  go_simp
  refine hK.out _ _ (fun _ => hs4) ?_
  clear hK K'
  try simp only [Act.put, List.setIfInBounds_toArray, List.set_cons_zero, List.set_cons_succ]
  refine Last.one (i := 9) rfl (by kernel_rfl) ?_
  intro K' hK0
  have hK := hid_of hK0
  clear hK0
  go_simp
  refine hK.out _ _ (fun _ => hs4) ?_
  clear hK K'
  try simp only [Act.put, List.setIfInBounds_toArray, List.set_cons_zero, List.set_cons_succ]
  clear hcut
  have hfz := (box5 Y3.out.bp).2 4
  have hcl := hs4.2
  refine Last.one (i := 10) rfl (by kernel_rfl) ?_
  intro K' hK0
  have hK := hid_of hK0
  clear hK0
  go_simp
  refine hK.out _ _ (fun h => absurd rfl h) ?_
  clear hK K' hfz hcl hs4 hs0 hs1
  refine Last.fin (by kernel_rfl) ?_ _
  have Z4 := hid_of (Y3.out.set3 (.slice (some ⟨g3, 0, none⟩) n3 c3))
  clear Y3 ZD3 Z3
  obtain ⟨W3, hW3⟩ : ∃ W, W = w6.setCell ⟨w1.heap.size, 4, none⟩ (.slice (some ⟨g3, 0, none⟩) n3 c3) := ⟨_, rfl⟩
  rw [← hW3] at Z4
  have HW3 := hid_of hW3
  clear hW3
  rw [← HW3.out]
  have q1 := box5 Z4.out.bp
  have q2 := box5 Z4.out.b1
  obtain ⟨⟨i0, i1, i2, i3, i4⟩, _⟩ := q1
  obtain ⟨⟨j0, j1, j2, j3, j4⟩, jz⟩ := q2
  clear HA1 HA2 HA3 HW HW1 HW2 HW3 HV
  go_wp2_with fail
  obtain ⟨⟨k0, k1, k2, k3, k4⟩, _⟩ := box5 (Copy.set5 Z4.out.b1 (.int .i64 xk) (.string X) (.slice (some ⟨g1, 0, none⟩) n1 c1) (.slice (some ⟨g2, 0, none⟩) n2 c2) (.slice (some ⟨g3, 0, none⟩) n3 c3))
  refine ⟨rfl, .agg #[.int .i64 xk, .string X, .slice (some ⟨g1, 0, none⟩) n1 c1, .slice (some ⟨g2, 0, none⟩) n2 c2, .slice (some ⟨g3, 0, none⟩) n3 c3], ?_, g1, c1, g2, c2, g3, c3, rfl, hid_of ⟨HSP.out _ _ _ _ _ _ _ _ (e_nr Z4.out.l) (e_row Z4.out.f) (e_row Z4.out.r), e_b Z4.out.low⟩⟩
  simp [results, Try.results4, go_sem, k0, k1, k2, k3, k4]
end Go.Proofs.Ytdcnkdkhanmklab.Spare
