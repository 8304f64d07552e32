/- The copy of a value: the program's and the document's. -/
import Derived.Test.YtdcnkdkhanmklabVals
namespace Go.Proofs.Ytdcnkdkhanmklab.Copy
open Go.RowKit Go.Maps
open Go.Proofs.Ytdcnkdkhanmklab.SetMath
open Go.Proofs.Ytdcnkdkhanmklab.ValueMath
open Go.Proofs.Ytdcnkdkhanmklab.Base
open Go.Proofs.Ytdcnkdkhanmklab.Vals
set_option linter.unusedVariables false

theorem row_set {w : World} {B e sz n : Nat} {v : Value} {xs : List Value} (h : w.ownsRow B e sz v n xs) {b i : Nat} (hb : b < B) (x : Value) : (w.setCell ⟨b, i, none⟩ x).ownsRow B e sz v n xs := by
  refine ⟨h.1, h.2.imp id ?_⟩
  rintro ⟨g, cap, cur, rfl, hbg, hg, rest⟩
  exact ⟨g, cap, cur, rfl, hbg, (set_ne (by omega) x).trans hg, rest⟩
theorem nr_set {w : World} {B : Nat} {v : Value} {l : List El} (h : NR B w v l) {b i : Nat} (hb : b < B) (x : Value) : NR B (w.setCell ⟨b, i, none⟩ x) v l := h.keep fun k _ hk => set_ne (by omega) x
/- what is stored in a box of five -/
theorem set5 {w : World} {b : Nat} {x0 x1 x2 x3 x4 : Value} {t : TypeId} (h : w.heap[b]? = some (.cells #[x0, x1, x2, x3, x4] t (0, 0))) (y0 y1 y2 y3 y4 : Value) :
    (((((w.setCell ⟨b, 0, none⟩ y0).setCell ⟨b, 1, none⟩ y1).setCell ⟨b, 2, none⟩ y2).setCell ⟨b, 3, none⟩ y3).setCell ⟨b, 4, none⟩ y4).heap[b]? = some (.cells #[y0, y1, y2, y3, y4] t (0, 0)) :=
  set_at (set_at (set_at (set_at (set_at h y0) y1) y2) y3) y4
theorem fin_nr {w : World} {B b : Nat} {v : Value} {l : List El} (h : NR B w v l) (hb : b + 2 ≤ B) {y y0 y1 y2 y3 y4 : Value} :
    NR b ((((((w.setCell ⟨b, 4, none⟩ y).setCell ⟨b + 1, 0, none⟩ y0).setCell ⟨b + 1, 1, none⟩ y1).setCell ⟨b + 1, 2, none⟩ y2).setCell ⟨b + 1, 3, none⟩ y3).setCell ⟨b + 1, 4, none⟩ y4) v l :=
  (nr_set (nr_set (nr_set (nr_set (nr_set (nr_set h (by omega) y) (by omega) y0) (by omega) y1) (by omega) y2) (by omega) y3) (by omega) y4).mono (by omega)
theorem fin_row {w : World} {B b e sz n : Nat} {v : Value} {xs : List Value} (h : w.ownsRow B e sz v n xs) (hb : b + 2 ≤ B) {y y0 y1 y2 y3 y4 : Value} :
    ((((((w.setCell ⟨b, 4, none⟩ y).setCell ⟨b + 1, 0, none⟩ y0).setCell ⟨b + 1, 1, none⟩ y1).setCell ⟨b + 1, 2, none⟩ y2).setCell ⟨b + 1, 3, none⟩ y3).setCell ⟨b + 1, 4, none⟩ y4).ownsRow b e sz v n xs :=
  FRow.row_mono (row_set (row_set (row_set (row_set (row_set (row_set h (by omega) y) (by omega) y0) (by omega) y1) (by omega) y2) (by omega) y3) (by omega) y4) (by omega)
theorem fin_b {w w' : World} {b : Nat} (h : Below b w w') {y y0 y1 y2 y3 y4 : Value} :
    Below b w ((((((w'.setCell ⟨b, 4, none⟩ y).setCell ⟨b + 1, 0, none⟩ y0).setCell ⟨b + 1, 1, none⟩ y1).setCell ⟨b + 1, 2, none⟩ y2).setCell ⟨b + 1, 3, none⟩ y3).setCell ⟨b + 1, 4, none⟩ y4) :=
  bset (bset (bset (bset (bset (bset h (Nat.le_refl _) y) (Nat.le_succ _) y0) (Nat.le_succ _) y1) (Nat.le_succ _) y2) (Nat.le_succ _) y3) (Nat.le_succ _) y4
set_option maxHeartbeats 4000000 in
set_option maxRecDepth 100000 in
theorem copy_call {w : World} {v : Value} {x : Vl} (h : VA w v x) (hf : Fit x) :
    Calls Try.prog 5 #[v] w fun e w' => ∃ u, e = .returned u ∧ VN w.heap.size w' u x ∧ Below w.heap.size w w' := by
  obtain ⟨a, b, c, rfl, h1, h2, h3⟩ := h
  obtain ⟨f1, f2, f3⟩ := hf
  obtain ⟨xk, xt, xl, xf, xr⟩ := x
  simp only at h1 h2 h3 f1 f2 f3 ⊢
  obtain ⟨V, hV⟩ : ∃ V, V = (w.alloc (.cells #[.int .i64 xk, .string (mk xt), a, b, c] 26)).alloc (.cells #[.int .i64 0, .string ⟨#[]⟩, .slice none 0 0, .slice none 0 0, .slice none 0 0] 26) := ⟨_, rfl⟩
  have bV : Below w.heap.size w V := by rw [hV]; exact FRow.bel (FRow.bnew w _) (FRow.bnew _ _) (Nat.le_refl _)
  have sV : V.heap.size = w.heap.size + 2 := by rw [hV]; simp
  have v0 : V.heap[w.heap.size]? = some (.cells #[.int .i64 xk, .string (mk xt), a, b, c] 26 (0, 0)) := by rw [hV, heap_alloc_old _ _ _ (by simp)]; exact heap_alloc_new w _
  have v1 : V.heap[w.heap.size + 1]? = some (.cells #[.int .i64 0, .string ⟨#[]⟩, .slice none 0 0, .slice none 0 0, .slice none 0 0] 26 (0, 0)) := by
    rw [hV]; have := heap_alloc_new (w.alloc (.cells #[.int .i64 xk, .string (mk xt), a, b, c] 26)) (.cells #[.int .i64 0, .string ⟨#[]⟩, .slice none 0 0, .slice none 0 0, .slice none 0 0] 26); simpa using this
  have HC1 := hid_of (Of.clone_call (h1.below bV) f1)
  have HV1 := hid_of v1
  have HV0 := hid_of v0
  have HBV := hid_of bV
  have HSV := hid_of sV
  obtain ⟨⟨c0, c1, c2, c3, c4⟩, z⟩ := box5 v0
  have HW := hid_of hV
  clear h1 v0 v1 bV sV hV
  go_enter Try.func5, Try.ntmps5
  go_wp2_with fail
  rw [← HW.out]
  refine HC1.out.mono ?_
  rintro e w1 ⟨r1, rfl, n1, b1⟩
  have v0 : w1.heap[w.heap.size]? = some (.cells #[.int .i64 xk, .string (mk xt), a, b, c] 26 (0, 0)) := (b1.block _ (by have := HSV.out; omega)).trans HV0.out
  have v1 := (b1.block (w.heap.size + 1) (by have := HSV.out; omega)).trans HV1.out
  clear c0 c1 c2 c3 c4 z HC1
  obtain ⟨⟨c0, c1, c2, c3, c4⟩, z⟩ := box5 v0
  have q2 := z 2
  have s2 := set_at (i := 2) v0 r1
  have S1 := hid_of (And.intro v0 v1)
  have N1 := hid_of (nr_set (i := 2) n1 (b := w.heap.size) (by have := HSV.out; omega) r1)
  have B1 := hid_of (bset (i := 2) (FRow.bel HBV.out b1 (Nat.le_refl _)) (b := w.heap.size) (Nat.le_refl _) r1)
  have HC2 := hid_of (cloneFRow (w := w1.setCell ⟨w.heap.size, 2, none⟩ r1) (v := b) (l := xf) (h2.below B1.out) f2)
  have HS2 := hid_of s2
  clear v0 v1 s2 n1 b1 z
  obtain ⟨ra, rc, rfl, _⟩ := N1.out.shape
  go_wp2_with fail
  refine HC2.out.mono ?_
  rintro e w2 ⟨r2, rfl, n2, b2⟩
  have sz1 : w.heap.size + 2 ≤ w1.heap.size := by have h := (lt_of S1.out.2); omega
  have v0 := (b2.block w.heap.size (by rw [size_set]; omega)).trans HS2.out
  have v1 := ((b2.block (w.heap.size + 1) (by rw [size_set]; omega)).trans (set_ne (by omega) _)).trans S1.out.2
  clear c0 c1 c2 c3 c4 q2 HC2
  obtain ⟨⟨c0, c1, c2, c3, c4⟩, z⟩ := box5 v0
  have q3 := z 3
  have s3 := set_at (i := 3) v0 r2
  have S2 := hid_of (And.intro v0 v1)
  have N2 := hid_of (And.intro (nr_set (i := 3) (N1.out.below b2) (b := w.heap.size) (by have := HSV.out; omega) r2) (row_set (i := 3) n2 (b := w.heap.size) (by rw [size_set]; omega) r2))
  have B2 := hid_of (bset (i := 3) (FRow.bel B1.out b2 (Nat.le_refl _)) (b := w.heap.size) (Nat.le_refl _) r2)
  have HC3 := hid_of (cloneERow (w := w2.setCell ⟨w.heap.size, 3, none⟩ r2) (v := c) (l := xr) (h3.below B2.out) f3)
  have HS3 := hid_of s3
  have SZ2 : Hid (w1.heap.size ≤ w2.heap.size) := hid_of (by have := b2.size; rwa [size_set] at this)
  obtain ⟨ra2, rc2, rfl⟩ := shapeFRow n2
  clear v0 v1 s3 n2 b2 z
  go_wp2_with fail
  refine HC3.out.mono ?_
  rintro e w3 ⟨r3, rfl, n3, b3⟩
  have sz2 : w.heap.size + 2 ≤ w2.heap.size := by have := SZ2.out; omega
  have v0 := (b3.block w.heap.size (by rw [size_set]; omega)).trans HS3.out
  have v1 := ((b3.block (w.heap.size + 1) (by rw [size_set]; omega)).trans (set_ne (by omega) _)).trans S2.out.2
  clear c0 c1 c2 c3 c4 q3 HC3
  obtain ⟨⟨c0, c1, c2, c3, c4⟩, z⟩ := box5 v0
  obtain ⟨⟨d0, d1, d2, d3, d4⟩, y⟩ := box5 v1
  have q4 := z 4
  have y0 := y 0
  have y1 := y 1
  have y2 := y 2
  have y3 := y 3
  have y4 := y 4
  have S3 := hid_of (And.intro v0 v1)
  have N3 := hid_of (And.intro (N2.out.1.below b3) (And.intro (FRow.row_below N2.out.2 b3) n3))
  have B3 := hid_of (FRow.bel B2.out b3 (Nat.le_refl _))
  have SZ3 : Hid (w2.heap.size ≤ w3.heap.size) := hid_of (by have := b3.size; rwa [size_set] at this)
  obtain ⟨ra3, rc3, rfl⟩ := shapeERow n3
  clear v0 v1 n3 b3 z y
  go_wp2_with fail
  have t1 : (w3.setCell ⟨w.heap.size, 4, none⟩ (.slice ra3 xr.length rc3)).heap[w.heap.size + 1]? = _ := (set_ne (by omega) _).trans S3.out.2
  obtain ⟨⟨g0, g1, g2, g3, g4⟩, _⟩ := box5 (set5 t1 (.int .i64 xk) (.string (mk xt)) (.slice ra xl.length rc) (.slice ra2 xf.length rc2) (.slice ra3 xr.length rc3))
  refine ⟨rfl, .agg #[.int .i64 xk, .string (mk xt), .slice ra xl.length rc, .slice ra2 xf.length rc2, .slice ra3 xr.length rc3], ?_, _, rfl, ⟨_, _, _, rfl, fin_nr N3.out.1 (by have := HSV.out; omega), fin_row N3.out.2.1 (by have := HSV.out; rw [size_set]; omega), fin_row N3.out.2.2 (by rw [size_set]; omega)⟩, fin_b B3.out⟩
  simp [results, Try.results5, go_sem, g0, g1, g2, g3, g4]
end Go.Proofs.Ytdcnkdkhanmklab.Copy
