/- The document's copy of a value. -/
import Derived.Test.YtdcnkdkhanmklabCopy
namespace Go.Proofs.Ytdcnkdkhanmklab.RCopy
open Go.RowKit Go.Maps
open Go.Proofs.Ytdcnkdkhanmklab.SetMath
open Go.Proofs.Ytdcnkdkhanmklab.ValueMath
open Go.Proofs.Ytdcnkdkhanmklab.Base
open Go.Proofs.Ytdcnkdkhanmklab.Vals
open Go.Proofs.Ytdcnkdkhanmklab.Copy (nr_set row_set set5)
set_option linter.unusedVariables false
set_option linter.unusedSimpArgs false

abbrev zB : Obj := .cells #[.int .i64 0, .string ⟨#[]⟩, .slice none 0 0, .slice none 0 0, .slice none 0 0] 26
theorem fin_nr {w : World} {B b : Nat} {v : Value} {l : List El} (h : NR B w v l) (hb : b + 3 ≤ B) {y y0 y1 y2 y3 y4 : Value} :
    NR b ((((((w.setCell ⟨b + 1 + 1, 4, none⟩ y).setCell ⟨b + 1, 0, none⟩ y0).setCell ⟨b + 1, 1, none⟩ y1).setCell ⟨b + 1, 2, none⟩ y2).setCell ⟨b + 1, 3, none⟩ y3).setCell ⟨b + 1, 4, none⟩ y4) v l :=
  (nr_set (nr_set (nr_set (nr_set (nr_set (nr_set h (by omega) y) (by omega) y0) (by omega) y1) (by omega) y2) (by omega) y3) (by omega) y4).mono (by omega)
theorem fin_row {w : World} {B b e sz n : Nat} {v : Value} {xs : List Value} (h : w.ownsRow B e sz v n xs) (hb : b + 3 ≤ B) {y y0 y1 y2 y3 y4 : Value} :
    ((((((w.setCell ⟨b + 1 + 1, 4, none⟩ y).setCell ⟨b + 1, 0, none⟩ y0).setCell ⟨b + 1, 1, none⟩ y1).setCell ⟨b + 1, 2, none⟩ y2).setCell ⟨b + 1, 3, none⟩ y3).setCell ⟨b + 1, 4, none⟩ y4).ownsRow b e sz v n xs :=
  FRow.row_mono (row_set (row_set (row_set (row_set (row_set (row_set h (by omega) y) (by omega) y0) (by omega) y1) (by omega) y2) (by omega) y3) (by omega) y4) (by omega)
theorem fin_b {w w' : World} {b : Nat} (h : Below b w w') {y y0 y1 y2 y3 y4 : Value} :
    Below b w ((((((w'.setCell ⟨b + 1 + 1, 4, none⟩ y).setCell ⟨b + 1, 0, none⟩ y0).setCell ⟨b + 1, 1, none⟩ y1).setCell ⟨b + 1, 2, none⟩ y2).setCell ⟨b + 1, 3, none⟩ y3).setCell ⟨b + 1, 4, none⟩ y4) :=
  bset (bset (bset (bset (bset (bset h (by omega) y) (Nat.le_succ _) y0) (Nat.le_succ _) y1) (Nat.le_succ _) y2) (Nat.le_succ _) y3) (Nat.le_succ _) y4
theorem keep_at {W w : World} {b i k : Nat} {v : Value} {o : Option Obj} (hW : W = w.setCell ⟨b, i, none⟩ v) (h : w.heap[k]? = o) (hk : k ≠ b) : W.heap[k]? = o := by rw [hW]; exact (set_ne hk _).trans h
set_option maxHeartbeats 4000000 in
set_option maxRecDepth 100000 in
theorem rcopy_call {w : World} {v : Value} {x : Vl} (h : VA w v x) (hf : Fit x) :
    Calls Try.prog 12 #[v] w fun e w' => ∃ u, e = .returned u ∧ VN w.heap.size w' u x ∧ Below w.heap.size w w' := by
  obtain ⟨a, b, c, rfl, h1, h2, h3⟩ := h
  obtain ⟨f1, f2, f3⟩ := hf
  obtain ⟨xk, xt, xl, xf, xr⟩ := x
  simp only at h1 h2 h3 f1 f2 f3 ⊢
  obtain ⟨la, lc, rfl, _, hr1⟩ := id h1
  obtain ⟨fa, fc, rfl, _, _⟩ := id h2
  obtain ⟨ea, ec, rfl, _, _⟩ := id h3
  obtain ⟨V, hV⟩ : ∃ V, V = ((w.alloc (.cells #[.int .i64 xk, .string (mk xt), .slice la xl.length lc, .slice fa xf.length fc, .slice ea xr.length ec] 26)).alloc zB).alloc (.cells #[.int .i64 xk, .string (mk xt), .slice la xl.length lc, .slice fa xf.length fc, .slice ea xr.length ec] 26) := ⟨_, rfl⟩
  have bV : Below w.heap.size w V := by rw [hV]; exact FRow.bel (FRow.bel (FRow.bnew w _) (FRow.bnew _ _) (Nat.le_refl _)) (FRow.bnew _ _) (Nat.le_refl _)
  have sV : V.heap.size = w.heap.size + 3 := by rw [hV]; simp
  have v0 : V.heap[w.heap.size]? = some (.cells #[.int .i64 xk, .string (mk xt), .slice la xl.length lc, .slice fa xf.length fc, .slice ea xr.length ec] 26 (0, 0)) := by rw [hV, heap_alloc_old _ _ _ (by simp; omega), heap_alloc_old _ _ _ (by simp)]; exact heap_alloc_new w _
  have v1 : V.heap[w.heap.size + 1]? = some (.cells #[.int .i64 0, .string ⟨#[]⟩, .slice none 0 0, .slice none 0 0, .slice none 0 0] 26 (0, 0)) := by
    rw [hV, heap_alloc_old _ _ _ (by simp)]
    have := heap_alloc_new (w.alloc (.cells #[.int .i64 xk, .string (mk xt), .slice la xl.length lc, .slice fa xf.length fc, .slice ea xr.length ec] 26)) zB
    simpa using this
  have v2 : V.heap[w.heap.size + 2]? = some (.cells #[.int .i64 xk, .string (mk xt), .slice la xl.length lc, .slice fa xf.length fc, .slice ea xr.length ec] 26 (0, 0)) := by
    rw [hV]
    have := heap_alloc_new ((w.alloc (.cells #[.int .i64 xk, .string (mk xt), .slice la xl.length lc, .slice fa xf.length fc, .slice ea xr.length ec] 26)).alloc zB) (.cells #[.int .i64 xk, .string (mk xt), .slice la xl.length lc, .slice fa xf.length fc, .slice ea xr.length ec] 26)
    simpa using this
  obtain ⟨r1, w1, hr1, n1, b1⟩ := app_any (B := V.heap.size) (v := .slice none 0 0) (l := []) (c := lc) (w := V) (.inl ⟨rfl, rfl⟩) (hr1.keep fun k hk _ => bV.block k hk) (.inl (by simpa using f1)) (Nat.le_refl _) 22
  rw [List.nil_append] at n1
  obtain ⟨w1', hw1'⟩ : ∃ W, W = w1.setCell ⟨w.heap.size + 2, 2, none⟩ r1 := ⟨_, rfl⟩
  have sz1 := b1.size
  have B1 : Below w.heap.size w w1' := by rw [hw1']; exact bset (FRow.bel bV b1 (Nat.le_refl _)) (by omega) r1
  have x0 := (b1.block w.heap.size (by omega)).trans v0
  have x1 := (b1.block (w.heap.size + 1) (by omega)).trans v1
  have x2 := (b1.block (w.heap.size + 2) (by omega)).trans v2
  have y0 := keep_at hw1' x0 (by omega)
  have y1 := keep_at hw1' x1 (by omega)
  have y2 : w1'.heap[w.heap.size + 2]? = some (.cells #[.int .i64 xk, .string (mk xt), r1, .slice fa xf.length fc, .slice ea xr.length ec] 26 (0, 0)) := by rw [hw1']; exact set_at x2 _
  have m1 : NR V.heap.size w1' r1 xl := by rw [hw1']; exact nr_set n1 (by omega) _
  have szw : w1'.heap.size = w1.heap.size := by rw [hw1', size_set]
  obtain ⟨r2, w2, hr2, d2⟩ := FRow.bd_app (FRow.bd_start w1') (.slice fa xf.length fc) xf (h2.below B1) (by simpa using f2)
  rw [List.nil_append] at d2
  obtain ⟨w2', hw2'⟩ : ∃ W, W = w2.setCell ⟨w.heap.size + 2, 3, none⟩ r2 := ⟨_, rfl⟩
  have sz2 := d2.bel.size
  have B2 : Below w.heap.size w w2' := by rw [hw2']; exact bset (FRow.bel B1 d2.bel (Nat.le_refl _)) (by omega) r2
  have p0 := (d2.bel.block w.heap.size (by omega)).trans y0
  have p1 := (d2.bel.block (w.heap.size + 1) (by omega)).trans y1
  have p2 := (d2.bel.block (w.heap.size + 2) (by omega)).trans y2
  have q0 := keep_at hw2' p0 (by omega)
  have q1 := keep_at hw2' p1 (by omega)
  have q2 : w2'.heap[w.heap.size + 2]? = some (.cells #[.int .i64 xk, .string (mk xt), r1, r2, .slice ea xr.length ec] 26 (0, 0)) := by rw [hw2']; exact set_at p2 _
  have m2 : NR V.heap.size w2' r1 xl := by rw [hw2']; exact nr_set (m1.below d2.bel) (by omega) _
  have m3 : FRow.OR w1'.heap.size w2' r2 xf := by rw [hw2']; exact row_set d2.row (by omega) _
  have szx : w2'.heap.size = w2.heap.size := by rw [hw2', size_set]
  obtain ⟨r3, w3, hr3, d3⟩ := ERow.bd_app (ERow.bd_start w2') (.slice ea xr.length ec) xr (h3.below B2) (by simpa using f3)
  rw [List.nil_append] at d3
  have sz3 := d3.bel.size
  have B3 := FRow.bel B2 d3.bel (Nat.le_refl _)
  have k0 := (d3.bel.block w.heap.size (by omega)).trans q0
  have k1 := (d3.bel.block (w.heap.size + 1) (by omega)).trans q1
  have k2 := (d3.bel.block (w.heap.size + 2) (by omega)).trans q2
  have o1 := m2.below d3.bel
  have o2 := FRow.row_below m3 d3.bel
  have o3 := d3.row
  obtain ⟨ra1, rc1, hs1, _⟩ := n1.shape
  obtain ⟨ra2, rc2, hs2⟩ := shapeFRow d2.row
  obtain ⟨ra3, rc3, hs3⟩ := shapeERow d3.row
  subst hs1 hs2 hs3
  have HF := hid_of (And.intro B3 (And.intro k1 (And.intro (And.intro o1 sV) (And.intro (And.intro o2 (show w.heap.size + 3 ≤ w1'.heap.size by omega)) (And.intro o3 (show w.heap.size + 3 ≤ w2'.heap.size by omega))))))
  obtain ⟨⟨a0, a1, a2, a3, a4⟩, _⟩ := box5 v0
  obtain ⟨⟨_, _, _, i3, _⟩, _⟩ := box5 x0
  obtain ⟨_, jz⟩ := box5 x2
  have jz2 := jz 2
  obtain ⟨⟨_, _, _, i3', _⟩, _⟩ := box5 y0
  obtain ⟨_, ez⟩ := box5 p2
  have ez3 := ez 3
  obtain ⟨⟨_, _, _, _, i4⟩, _⟩ := box5 p0
  obtain ⟨⟨l0, l1, l2, l3, l4⟩, lz⟩ := box5 k2
  have lz4 := lz 4
  obtain ⟨⟨u0, u1, u2, u3, u4⟩, uz⟩ := box5 k1
  have uz0 := uz 0
  have uz1 := uz 1
  have uz2 := uz 2
  have uz3 := uz 3
  have uz4 := uz 4
  have HV := hid_of hV
  have HX1 := hid_of hw1'
  have HX2 := hid_of hw2'
  clear h1 h2 h3 v0 v1 v2 x0 x1 x2 y0 y1 y2 p0 p1 p2 q0 q1 q2 k0 k1 k2 bV sV hV hw1' hw2' n1 b1 d2 d3 m1 m2 m3 B1 B2 B3 jz ez lz uz o1 o2 o3 szw szx sz1 sz2 sz3 f1 f2 f3
  go_enter Try.func12, Try.ntmps12
  go_wp2_with (first
    | (rw [← HV.out]; at_builtin; refine wpl_eq rfl _ _ 22 22 rfl (.slice none 0 0) (.slice la xl.length lc) (.slice ra1 xl.length rc1) V w1 rfl rfl hr1 ?_)
    | (rw [← HX1.out]; at_builtin; refine wpl_eq rfl _ _ 23 23 rfl (.slice none 0 0) (.slice fa xf.length fc) (.slice ra2 xf.length rc2) w1' w2 rfl rfl hr2 ?_)
    | (rw [← HX2.out]; at_builtin; refine wpl_eq rfl _ _ 24 24 rfl (.slice none 0 0) (.slice ea xr.length ec) (.slice ra3 xr.length rc3) w2' w3 rfl rfl hr3 ?_))
  obtain ⟨B3, k1, ⟨o1, e1⟩, ⟨o2, e2⟩, o3, e3⟩ := HF.out
  have t1 := keep_at (W := w3.setCell ⟨w.heap.size + 1 + 1, 4, none⟩ (.slice ra3 xr.length rc3)) rfl k1 (by omega)
  obtain ⟨⟨g0, g1, g2, g3, g4⟩, _⟩ := box5 (set5 t1 (.int .i64 xk) (.string (mk xt)) (.slice ra1 xl.length rc1) (.slice ra2 xf.length rc2) (.slice ra3 xr.length rc3))
  refine ⟨rfl, .agg #[.int .i64 xk, .string (mk xt), .slice ra1 xl.length rc1, .slice ra2 xf.length rc2, .slice ra3 xr.length rc3], ?_, _, rfl, ⟨_, _, _, rfl, fin_nr o1 (by omega), fin_row o2 (by omega), fin_row o3 (by omega)⟩, fin_b B3⟩
  simp [results, Try.results12, go_sem, g0, g1, g2, g3, g4]
end Go.Proofs.Ytdcnkdkhanmklab.RCopy
