/- The copy of a value: the program's and the document's. strayed. checked, Check. A reader that goes along bytes, and what it has failed at: against the reading of ValueMath. -/
import Derived.Test.YtpibeabokedpdaaGreatDoorSSetM
import Derived.Test.YtpibeabokedpdaaGreatDoorEqualM
import Derived.Test.YtpibeabokedpdaaGreatDoorMayM
import Derived.Test.YtpibeabokedpdaaGreatDoorFixMathM
section
namespace Go.Proofs.YtpibeabokedpdaaGreatDoor.Copy
open Go.RowKit Go.Maps
open Go.Proofs.YtpibeabokedpdaaGreatDoor.SetMath
open Go.Proofs.YtpibeabokedpdaaGreatDoor.ValueMath
open Go.Proofs.YtpibeabokedpdaaGreatDoor.Base
open Go.Proofs.YtpibeabokedpdaaGreatDoor.Vals
set_option linter.unusedVariables false

theorem row_set {w : World} {B e sz n : Nat} {v : Value} {xs : List Value} (h : w.ownsRow B e sz v n xs) {b i : Nat} (hb : b < B) (x : Value) : (w.setCell ⟨b, i, none⟩ x).ownsRow B e sz v n xs := by
  refine ⟨h.1, h.2.imp id ?_⟩
  rintro ⟨g, cap, cur, rfl, hbg, hg, rest⟩
  exact ⟨g, cap, cur, rfl, hbg, (set_ne (by omega) x).trans hg, rest⟩
theorem nr_set {w : World} {B : Nat} {v : Value} {l : List El} (h : NR B w v l) {b i : Nat} (hb : b < B) (x : Value) : NR B (w.setCell ⟨b, i, none⟩ x) v l := h.keep fun k _ hk => set_ne (by omega) x
/- what is stored in a box of five -/
theorem set5 {w : World} {b : Nat} {x0 x1 x2 x3 x4 : Value} {t : TypeId} (h : w.heap[b]? = some (.cells #[x0, x1, x2, x3, x4] t (0, 0))) (y0 y1 y2 y3 y4 : Value) :
    (((((w.setCell ⟨b, 0, none⟩ y0).setCell ⟨b, 1, none⟩ y1).setCell ⟨b, 2, none⟩ y2).setCell ⟨b, 3, none⟩ y3).setCell ⟨b, 4, none⟩ y4).heap[b]? = some (.cells #[y0, y1, y2, y3, y4] t (0, 0)) :=
  set_at (set_at (set_at (set_at (set_at h y0) y1) y2) y3) y4
theorem fin_nr {w : World} {B b : Nat} {v : Value} {l : List El} (h : NR B w v l) (hb : b + 2 ≤ B) {y y0 y1 y2 y3 y4 : Value} :
    NR b ((((((w.setCell ⟨b, 4, none⟩ y).setCell ⟨b + 1, 0, none⟩ y0).setCell ⟨b + 1, 1, none⟩ y1).setCell ⟨b + 1, 2, none⟩ y2).setCell ⟨b + 1, 3, none⟩ y3).setCell ⟨b + 1, 4, none⟩ y4) v l :=
  (nr_set (nr_set (nr_set (nr_set (nr_set (nr_set h (by omega) y) (by omega) y0) (by omega) y1) (by omega) y2) (by omega) y3) (by omega) y4).mono (by omega)
theorem fin_row {w : World} {B b e sz n : Nat} {v : Value} {xs : List Value} (h : w.ownsRow B e sz v n xs) (hb : b + 2 ≤ B) {y y0 y1 y2 y3 y4 : Value} :
    ((((((w.setCell ⟨b, 4, none⟩ y).setCell ⟨b + 1, 0, none⟩ y0).setCell ⟨b + 1, 1, none⟩ y1).setCell ⟨b + 1, 2, none⟩ y2).setCell ⟨b + 1, 3, none⟩ y3).setCell ⟨b + 1, 4, none⟩ y4).ownsRow b e sz v n xs :=
  FRow.row_mono (row_set (row_set (row_set (row_set (row_set (row_set h (by omega) y) (by omega) y0) (by omega) y1) (by omega) y2) (by omega) y3) (by omega) y4) (by omega)
theorem fin_b {w w' : World} {b : Nat} (h : Below b w w') {y y0 y1 y2 y3 y4 : Value} :
    Below b w ((((((w'.setCell ⟨b, 4, none⟩ y).setCell ⟨b + 1, 0, none⟩ y0).setCell ⟨b + 1, 1, none⟩ y1).setCell ⟨b + 1, 2, none⟩ y2).setCell ⟨b + 1, 3, none⟩ y3).setCell ⟨b + 1, 4, none⟩ y4) :=
  bset (bset (bset (bset (bset (bset h (Nat.le_refl _) y) (Nat.le_succ _) y0) (Nat.le_succ _) y1) (Nat.le_succ _) y2) (Nat.le_succ _) y3) (Nat.le_succ _) y4
set_option maxHeartbeats 4000000 in
set_option maxRecDepth 100000 in
theorem copy_call {w : World} {v : Value} {x : Vl} (h : VA w v x) (hf : Fit x) :
    Calls Tryz.prog 52 #[v] w fun e w' => ∃ u, e = .returned u ∧ VN w.heap.size w' u x ∧ Below w.heap.size w w' := by
  obtain ⟨a, b, c, rfl, h1, h2, h3⟩ := h
  obtain ⟨f1, f2, f3⟩ := hf
  obtain ⟨xk, xt, xl, xf, xr⟩ := x
  simp only at h1 h2 h3 f1 f2 f3 ⊢
  obtain ⟨V, hV⟩ : ∃ V, V = (w.alloc (.cells #[.int .i64 xk, .string (mk xt), a, b, c] 40)).alloc (.cells #[.int .i64 0, .string ⟨#[]⟩, .slice none 0 0, .slice none 0 0, .slice none 0 0] 40) := ⟨_, rfl⟩
  have bV : Below w.heap.size w V := by rw [hV]; exact FRow.bel (FRow.bnew w _) (FRow.bnew _ _) (Nat.le_refl _)
  have sV : V.heap.size = w.heap.size + 2 := by rw [hV]; simp
  have v0 : V.heap[w.heap.size]? = some (.cells #[.int .i64 xk, .string (mk xt), a, b, c] 40 (0, 0)) := by rw [hV, hao _ _ _ (by simp)]; exact heap_alloc_new w _
  have v1 : V.heap[w.heap.size + 1]? = some (.cells #[.int .i64 0, .string ⟨#[]⟩, .slice none 0 0, .slice none 0 0, .slice none 0 0] 40 (0, 0)) := by
    rw [hV]; have := heap_alloc_new (w.alloc (.cells #[.int .i64 xk, .string (mk xt), a, b, c] 40)) (.cells #[.int .i64 0, .string ⟨#[]⟩, .slice none 0 0, .slice none 0 0, .slice none 0 0] 40); simpa using this
  have HC1 := hid_of (Of.clone_call (h1.below bV) f1)
  have HV1 := hid_of v1
  have HV0 := hid_of v0
  have HBV := hid_of bV
  have HSV := hid_of sV
  obtain ⟨⟨c0, c1, c2, c3, c4⟩, z⟩ := box5 v0
  have HW := hid_of hV
  clear h1 v0 v1 bV sV hV
  go_enter Tryz.func52, Tryz.ntmps52
  go_wp2_with fail
  rw [← HW.out]
  refine HC1.out.mono ?_
  rintro e w1 ⟨r1, rfl, n1, b1⟩
  have v0 : w1.heap[w.heap.size]? = some (.cells #[.int .i64 xk, .string (mk xt), a, b, c] 40 (0, 0)) := (b1.block _ (by have := HSV.out; omega)).trans HV0.out
  have v1 := (b1.block (w.heap.size + 1) (by have := HSV.out; omega)).trans HV1.out
  clear c0 c1 c2 c3 c4 z HC1
  obtain ⟨⟨c0, c1, c2, c3, c4⟩, z⟩ := box5 v0
  have q2 := z 2
  have s2 := set_at (i := 2) v0 r1
  have S1 := hid_of (And.intro v0 v1)
  have N1 := hid_of (nr_set (i := 2) n1 (b := w.heap.size) (by have := HSV.out; omega) r1)
  have B1 := hid_of (bset (i := 2) (FRow.bel HBV.out b1 (Nat.le_refl _)) (b := w.heap.size) (Nat.le_refl _) r1)
  have HC2 := hid_of (cloneFRow (w := w1.setCell ⟨w.heap.size, 2, none⟩ r1) (v := b) (l := xf) (h2.below B1.out) f2)
  have HS2 := hid_of s2
  clear v0 v1 s2 n1 b1 z
  obtain ⟨ra, rc, rfl, _⟩ := N1.out.shape
  go_wp2_with fail
  refine HC2.out.mono ?_
  rintro e w2 ⟨r2, rfl, n2, b2⟩
  have sz1 : w.heap.size + 2 ≤ w1.heap.size := by have h := (lt_of S1.out.2); omega
  have v0 := (b2.block w.heap.size (by rw [size_set]; omega)).trans HS2.out
  have v1 := ((b2.block (w.heap.size + 1) (by rw [size_set]; omega)).trans (set_ne (by omega) _)).trans S1.out.2
  clear c0 c1 c2 c3 c4 q2 HC2
  obtain ⟨⟨c0, c1, c2, c3, c4⟩, z⟩ := box5 v0
  have q3 := z 3
  have s3 := set_at (i := 3) v0 r2
  have S2 := hid_of (And.intro v0 v1)
  have N2 := hid_of (And.intro (nr_set (i := 3) (N1.out.below b2) (b := w.heap.size) (by have := HSV.out; omega) r2) (row_set (i := 3) n2 (b := w.heap.size) (by rw [size_set]; omega) r2))
  have B2 := hid_of (bset (i := 3) (FRow.bel B1.out b2 (Nat.le_refl _)) (b := w.heap.size) (Nat.le_refl _) r2)
  have HC3 := hid_of (cloneERow (w := w2.setCell ⟨w.heap.size, 3, none⟩ r2) (v := c) (l := xr) (h3.below B2.out) f3)
  have HS3 := hid_of s3
  have SZ2 : Hid (w1.heap.size ≤ w2.heap.size) := hid_of (by have := b2.size; rwa [size_set] at this)
  obtain ⟨ra2, rc2, rfl⟩ := shapeFRow n2
  clear v0 v1 s3 n2 b2 z
  go_wp2_with fail
  refine HC3.out.mono ?_
  rintro e w3 ⟨r3, rfl, n3, b3⟩
  have sz2 : w.heap.size + 2 ≤ w2.heap.size := by have := SZ2.out; omega
  have v0 := (b3.block w.heap.size (by rw [size_set]; omega)).trans HS3.out
  have v1 := ((b3.block (w.heap.size + 1) (by rw [size_set]; omega)).trans (set_ne (by omega) _)).trans S2.out.2
  clear c0 c1 c2 c3 c4 q3 HC3
  obtain ⟨⟨c0, c1, c2, c3, c4⟩, z⟩ := box5 v0
  obtain ⟨⟨d0, d1, d2, d3, d4⟩, y⟩ := box5 v1
  have q4 := z 4
  have y0 := y 0
  have y1 := y 1
  have y2 := y 2
  have y3 := y 3
  have y4 := y 4
  have S3 := hid_of (And.intro v0 v1)
  have N3 := hid_of (And.intro (N2.out.1.below b3) (And.intro (FRow.row_below N2.out.2 b3) n3))
  have B3 := hid_of (FRow.bel B2.out b3 (Nat.le_refl _))
  have SZ3 : Hid (w2.heap.size ≤ w3.heap.size) := hid_of (by have := b3.size; rwa [size_set] at this)
  obtain ⟨ra3, rc3, rfl⟩ := shapeERow n3
  clear v0 v1 n3 b3 z y
  go_wp2_with fail
  have t1 : (w3.setCell ⟨w.heap.size, 4, none⟩ (.slice ra3 xr.length rc3)).heap[w.heap.size + 1]? = _ := (set_ne (by omega) _).trans S3.out.2
  obtain ⟨⟨g0, g1, g2, g3, g4⟩, _⟩ := box5 (set5 t1 (.int .i64 xk) (.string (mk xt)) (.slice ra xl.length rc) (.slice ra2 xf.length rc2) (.slice ra3 xr.length rc3))
  refine ⟨rfl, .agg #[.int .i64 xk, .string (mk xt), .slice ra xl.length rc, .slice ra2 xf.length rc2, .slice ra3 xr.length rc3], ?_, _, rfl, ⟨_, _, _, rfl, fin_nr N3.out.1 (by have := HSV.out; omega), fin_row N3.out.2.1 (by have := HSV.out; rw [size_set]; omega), fin_row N3.out.2.2 (by rw [size_set]; omega)⟩, fin_b B3.out⟩
  simp [results, Tryz.results52, go_sem, g0, g1, g2, g3, g4]
end Go.Proofs.YtpibeabokedpdaaGreatDoor.Copy
end
section
namespace Go.Proofs.YtpibeabokedpdaaGreatDoor.Stray
open Go.RowKit Go.Maps
open Go.Proofs.YtpibeabokedpdaaGreatDoor.ValueMath
open Go.Proofs.YtpibeabokedpdaaGreatDoor.Base
open Go.Proofs.YtpibeabokedpdaaGreatDoor.Vals
open Go.Proofs.YtpibeabokedpdaaGreatDoor.Check0
set_option linter.unusedVariables false
set_option linter.unusedSimpArgs false
set_option maxHeartbeats 4000000 in
set_option maxRecDepth 100000 in
theorem stray_raw (k : Int) (hk : k = 1 ∨ k = 2 ∨ k = 3 ∨ k = 4 ∨ k = 5) (X : ByteArray) (aa ba ca : Option Addr) (an bn cn ac bc cc : Nat) (bt bl bf br : Bool) (ht : X.toList.isEmpty = !bt) (ha : decide ((0 : Int) < (an : Int)) = bl) (hb : decide ((0 : Int) < (bn : Int)) = bf) (hc : decide ((0 : Int) < (cn : Int)) = br) (ha' : decide (0 < an) = bl) (hb' : decide (0 < bn) = bf) (hc' : decide (0 < cn) = br) (w : World) :
    Calls Tryz.prog 140 #[.agg #[.int .i64 k, .string X, .slice aa an ac, .slice ba bn bc, .slice ca cn cc]] w fun e w' => e = .returned (.bool (strB k bt bl bf br)) ∧ Below w.heap.size w w' := by
  rcases hk with rfl | rfl | rfl | rfl | rfl <;> cases bt <;> cases bl <;> cases bf <;> cases br
  all_goals
    simp only [Bool.not_true, Bool.not_false] at ht
    go_enter Tryz.func140, Tryz.ntmps140
    go_wp2
    go_ret
    exact ⟨rfl, FRow.bnew w _⟩
end Go.Proofs.YtpibeabokedpdaaGreatDoor.Stray
end
section
namespace Go.Proofs.YtpibeabokedpdaaGreatDoor.Check
open Go.RowKit Go.Maps
open Go.Proofs.YtpibeabokedpdaaGreatDoor.SetMath
open Go.Proofs.YtpibeabokedpdaaGreatDoor.ValueMath
open Go.Proofs.YtpibeabokedpdaaGreatDoor.Base
open Go.Proofs.YtpibeabokedpdaaGreatDoor.Vals
open Go.Proofs.YtpibeabokedpdaaGreatDoor.May
open Go.Proofs.YtpibeabokedpdaaGreatDoor.MayR
open Go.Proofs.YtpibeabokedpdaaGreatDoor.Check0
set_option linter.unusedVariables false
set_option linter.unusedSimpArgs false

set_option maxHeartbeats 2000000 in
set_option maxRecDepth 100000 in
theorem raw1 (X : ByteArray) (aa ba ca : Option Addr) (an bn cn ac bc cc : Nat) (st mb : Bool) (w : World)
    (HS : Hid (∀ W, Below w.heap.size w W → Calls Tryz.prog 140 #[.agg #[.int .i64 1, .string X, .slice aa an ac, .slice ba bn bc, .slice ca cn cc]] W fun e w' => e = .returned (.bool st) ∧ Below W.heap.size W w'))
    (HM : Hid (∀ W, Below w.heap.size w W → Calls Tryz.prog 256 #[.string X] W fun e w' => e = .returned (.bool mb) ∧ Below W.heap.size W w')) :
    Calls Tryz.prog 95 #[.agg #[.int .i64 1, .string X, .slice aa an ac, .slice ba bn bc, .slice ca cn cc]] w fun e w' => e = .returned (.tuple #[if (st || !mb) then .nilIface else .iface 230 (.string X), .int .i64 (if (st || !mb) then 131 else 0)]) ∧ Below w.heap.size w w' := by
  have HC := hid_of fun W => content_call 1 X aa ba ca an bn cn ac bc cc W
  rw [show cv 1 (.string X) (.slice aa an ac) (.slice ba bn bc) (.slice ca cn cc) = .iface 230 (.string X) from rfl] at HC
  obtain ⟨V, hV⟩ : ∃ V, V = w.alloc (.cells #[.int .i64 1, .string X, .slice aa an ac, .slice ba bn bc, .slice ca cn cc] 40) := ⟨_, rfl⟩
  have bV : Below w.heap.size w V := by rw [hV]; exact FRow.bnew w _
  have v0 : V.heap[w.heap.size]? = some (.cells #[.int .i64 1, .string X, .slice aa an ac, .slice ba bn bc, .slice ca cn cc] 40 (0, 0)) := by rw [hV]; exact heap_alloc_new w _
  have HV := hid_of hV
  have HB := hid_of bV
  have HX := hid_of fun (W : World) (hW : Below V.heap.size V W) => box5 ((hW.block _ (lt_of v0)).trans v0)
  clear v0 bV hV
  go_enter Tryz.func95, Tryz.ntmps95
  go_wp2_with fail
  rw [← HV.out]
  refine (HC.out V).mono ?_
  rintro e w1 ⟨rfl, b1⟩
  obtain ⟨⟨c0, c1, c2, c3, c4⟩, _⟩ := HX.out w1 b1
  have B1 := hid_of (FRow.bel HB.out b1 (Nat.le_refl _))
  clear b1 HC HX
  go_wp2_with fail
  refine (HS.out w1 B1.out).mono ?_
  rintro e w2 ⟨rfl, b2⟩
  have B2 := hid_of (FRow.bel B1.out b2 (Nat.le_refl _))
  clear b2 HS c0 c1 c2 c3 c4
  cases st
  · go_wp2_with fail
    refine (HM.out w2 B2.out).mono ?_
    rintro e w3 ⟨rfl, b3⟩
    have B3 := hid_of (FRow.bel B2.out b3 (Nat.le_refl _))
    clear b3 HM
    cases mb
    · go_wp2_with fail
      go_ret2
      exact ⟨rfl, B3.out⟩
    · go_wp2_with fail
      go_ret2
      exact ⟨rfl, B3.out⟩
  · go_wp2_with fail
    go_ret2
    exact ⟨rfl, B2.out⟩

set_option maxHeartbeats 2000000 in
set_option maxRecDepth 100000 in
theorem raw2 (X : ByteArray) (aa ba ca : Option Addr) (an bn cn ac bc cc : Nat) (st mb : Bool) (w : World)
    (HS : Hid (∀ W, Below w.heap.size w W → Calls Tryz.prog 140 #[.agg #[.int .i64 2, .string X, .slice aa an ac, .slice ba bn bc, .slice ca cn cc]] W fun e w' => e = .returned (.bool st) ∧ Below W.heap.size W w'))
    (HM : Hid (∀ W, Below w.heap.size w W → Calls Tryz.prog 259 #[.slice aa an ac] W fun e w' => e = .returned (.bool mb) ∧ Below W.heap.size W w')) :
    Calls Tryz.prog 95 #[.agg #[.int .i64 2, .string X, .slice aa an ac, .slice ba bn bc, .slice ca cn cc]] w fun e w' => e = .returned (.tuple #[if (st || !mb) then .nilIface else .iface 231 (.slice aa an ac), .int .i64 (if (st || !mb) then 131 else 0)]) ∧ Below w.heap.size w w' := by
  have HC := hid_of fun W => content_call 2 X aa ba ca an bn cn ac bc cc W
  rw [show cv 2 (.string X) (.slice aa an ac) (.slice ba bn bc) (.slice ca cn cc) = .iface 231 (.slice aa an ac) from rfl] at HC
  obtain ⟨V, hV⟩ : ∃ V, V = w.alloc (.cells #[.int .i64 2, .string X, .slice aa an ac, .slice ba bn bc, .slice ca cn cc] 40) := ⟨_, rfl⟩
  have bV : Below w.heap.size w V := by rw [hV]; exact FRow.bnew w _
  have v0 : V.heap[w.heap.size]? = some (.cells #[.int .i64 2, .string X, .slice aa an ac, .slice ba bn bc, .slice ca cn cc] 40 (0, 0)) := by rw [hV]; exact heap_alloc_new w _
  have HV := hid_of hV
  have HB := hid_of bV
  have HX := hid_of fun (W : World) (hW : Below V.heap.size V W) => box5 ((hW.block _ (lt_of v0)).trans v0)
  clear v0 bV hV
  go_enter Tryz.func95, Tryz.ntmps95
  go_wp2_with fail
  rw [← HV.out]
  refine (HC.out V).mono ?_
  rintro e w1 ⟨rfl, b1⟩
  obtain ⟨⟨c0, c1, c2, c3, c4⟩, _⟩ := HX.out w1 b1
  have B1 := hid_of (FRow.bel HB.out b1 (Nat.le_refl _))
  clear b1 HC HX
  go_wp2_with fail
  refine (HS.out w1 B1.out).mono ?_
  rintro e w2 ⟨rfl, b2⟩
  have B2 := hid_of (FRow.bel B1.out b2 (Nat.le_refl _))
  clear b2 HS c0 c1 c2 c3 c4
  cases st
  · go_wp2_with fail
    refine (HM.out w2 B2.out).mono ?_
    rintro e w3 ⟨rfl, b3⟩
    have B3 := hid_of (FRow.bel B2.out b3 (Nat.le_refl _))
    clear b3 HM
    cases mb
    · go_wp2_with fail
      go_ret2
      exact ⟨rfl, B3.out⟩
    · go_wp2_with fail
      go_ret2
      exact ⟨rfl, B3.out⟩
  · go_wp2_with fail
    go_ret2
    exact ⟨rfl, B2.out⟩

set_option maxHeartbeats 2000000 in
set_option maxRecDepth 100000 in
theorem raw3 (X : ByteArray) (aa ba ca : Option Addr) (an bn cn ac bc cc : Nat) (st mb : Bool) (w : World)
    (HS : Hid (∀ W, Below w.heap.size w W → Calls Tryz.prog 140 #[.agg #[.int .i64 3, .string X, .slice aa an ac, .slice ba bn bc, .slice ca cn cc]] W fun e w' => e = .returned (.bool st) ∧ Below W.heap.size W w'))
    (HM : Hid (∀ W, Below w.heap.size w W → Calls Tryz.prog 262 #[.slice ba bn bc] W fun e w' => e = .returned (.bool mb) ∧ Below W.heap.size W w')) :
    Calls Tryz.prog 95 #[.agg #[.int .i64 3, .string X, .slice aa an ac, .slice ba bn bc, .slice ca cn cc]] w fun e w' => e = .returned (.tuple #[if (st || !mb) then .nilIface else .iface 232 (.slice ba bn bc), .int .i64 (if (st || !mb) then 131 else 0)]) ∧ Below w.heap.size w w' := by
  have HC := hid_of fun W => content_call 3 X aa ba ca an bn cn ac bc cc W
  rw [show cv 3 (.string X) (.slice aa an ac) (.slice ba bn bc) (.slice ca cn cc) = .iface 232 (.slice ba bn bc) from rfl] at HC
  obtain ⟨V, hV⟩ : ∃ V, V = w.alloc (.cells #[.int .i64 3, .string X, .slice aa an ac, .slice ba bn bc, .slice ca cn cc] 40) := ⟨_, rfl⟩
  have bV : Below w.heap.size w V := by rw [hV]; exact FRow.bnew w _
  have v0 : V.heap[w.heap.size]? = some (.cells #[.int .i64 3, .string X, .slice aa an ac, .slice ba bn bc, .slice ca cn cc] 40 (0, 0)) := by rw [hV]; exact heap_alloc_new w _
  have HV := hid_of hV
  have HB := hid_of bV
  have HX := hid_of fun (W : World) (hW : Below V.heap.size V W) => box5 ((hW.block _ (lt_of v0)).trans v0)
  clear v0 bV hV
  go_enter Tryz.func95, Tryz.ntmps95
  go_wp2_with fail
  rw [← HV.out]
  refine (HC.out V).mono ?_
  rintro e w1 ⟨rfl, b1⟩
  obtain ⟨⟨c0, c1, c2, c3, c4⟩, _⟩ := HX.out w1 b1
  have B1 := hid_of (FRow.bel HB.out b1 (Nat.le_refl _))
  clear b1 HC HX
  go_wp2_with fail
  refine (HS.out w1 B1.out).mono ?_
  rintro e w2 ⟨rfl, b2⟩
  have B2 := hid_of (FRow.bel B1.out b2 (Nat.le_refl _))
  clear b2 HS c0 c1 c2 c3 c4
  cases st
  · go_wp2_with fail
    refine (HM.out w2 B2.out).mono ?_
    rintro e w3 ⟨rfl, b3⟩
    have B3 := hid_of (FRow.bel B2.out b3 (Nat.le_refl _))
    clear b3 HM
    cases mb
    · go_wp2_with fail
      go_ret2
      exact ⟨rfl, B3.out⟩
    · go_wp2_with fail
      go_ret2
      exact ⟨rfl, B3.out⟩
  · go_wp2_with fail
    go_ret2
    exact ⟨rfl, B2.out⟩

set_option maxHeartbeats 2000000 in
set_option maxRecDepth 100000 in
theorem raw4 (X : ByteArray) (aa ba ca : Option Addr) (an bn cn ac bc cc : Nat) (st mb : Bool) (w : World)
    (HS : Hid (∀ W, Below w.heap.size w W → Calls Tryz.prog 140 #[.agg #[.int .i64 4, .string X, .slice aa an ac, .slice ba bn bc, .slice ca cn cc]] W fun e w' => e = .returned (.bool st) ∧ Below W.heap.size W w'))
    (HM : Hid (∀ W, Below w.heap.size w W → Calls Tryz.prog 265 #[.slice aa an ac] W fun e w' => e = .returned (.bool mb) ∧ Below W.heap.size W w')) :
    Calls Tryz.prog 95 #[.agg #[.int .i64 4, .string X, .slice aa an ac, .slice ba bn bc, .slice ca cn cc]] w fun e w' => e = .returned (.tuple #[if (st || !mb) then .nilIface else .iface 233 (.slice aa an ac), .int .i64 (if (st || !mb) then 131 else 0)]) ∧ Below w.heap.size w w' := by
  have HC := hid_of fun W => content_call 4 X aa ba ca an bn cn ac bc cc W
  rw [show cv 4 (.string X) (.slice aa an ac) (.slice ba bn bc) (.slice ca cn cc) = .iface 233 (.slice aa an ac) from rfl] at HC
  obtain ⟨V, hV⟩ : ∃ V, V = w.alloc (.cells #[.int .i64 4, .string X, .slice aa an ac, .slice ba bn bc, .slice ca cn cc] 40) := ⟨_, rfl⟩
  have bV : Below w.heap.size w V := by rw [hV]; exact FRow.bnew w _
  have v0 : V.heap[w.heap.size]? = some (.cells #[.int .i64 4, .string X, .slice aa an ac, .slice ba bn bc, .slice ca cn cc] 40 (0, 0)) := by rw [hV]; exact heap_alloc_new w _
  have HV := hid_of hV
  have HB := hid_of bV
  have HX := hid_of fun (W : World) (hW : Below V.heap.size V W) => box5 ((hW.block _ (lt_of v0)).trans v0)
  clear v0 bV hV
  go_enter Tryz.func95, Tryz.ntmps95
  go_wp2_with fail
  rw [← HV.out]
  refine (HC.out V).mono ?_
  rintro e w1 ⟨rfl, b1⟩
  obtain ⟨⟨c0, c1, c2, c3, c4⟩, _⟩ := HX.out w1 b1
  have B1 := hid_of (FRow.bel HB.out b1 (Nat.le_refl _))
  clear b1 HC HX
  go_wp2_with fail
  refine (HS.out w1 B1.out).mono ?_
  rintro e w2 ⟨rfl, b2⟩
  have B2 := hid_of (FRow.bel B1.out b2 (Nat.le_refl _))
  clear b2 HS c0 c1 c2 c3 c4
  cases st
  · go_wp2_with fail
    refine (HM.out w2 B2.out).mono ?_
    rintro e w3 ⟨rfl, b3⟩
    have B3 := hid_of (FRow.bel B2.out b3 (Nat.le_refl _))
    clear b3 HM
    cases mb
    · go_wp2_with fail
      go_ret2
      exact ⟨rfl, B3.out⟩
    · go_wp2_with fail
      go_ret2
      exact ⟨rfl, B3.out⟩
  · go_wp2_with fail
    go_ret2
    exact ⟨rfl, B2.out⟩

set_option maxHeartbeats 2000000 in
set_option maxRecDepth 100000 in
theorem raw5 (X : ByteArray) (aa ba ca : Option Addr) (an bn cn ac bc cc : Nat) (st mb : Bool) (w : World)
    (HS : Hid (∀ W, Below w.heap.size w W → Calls Tryz.prog 140 #[.agg #[.int .i64 5, .string X, .slice aa an ac, .slice ba bn bc, .slice ca cn cc]] W fun e w' => e = .returned (.bool st) ∧ Below W.heap.size W w'))
    (HM : Hid (∀ W, Below w.heap.size w W → Calls Tryz.prog 269 #[.slice ca cn cc] W fun e w' => e = .returned (.bool mb) ∧ Below W.heap.size W w')) :
    Calls Tryz.prog 95 #[.agg #[.int .i64 5, .string X, .slice aa an ac, .slice ba bn bc, .slice ca cn cc]] w fun e w' => e = .returned (.tuple #[if (st || !mb) then .nilIface else .iface 234 (.slice ca cn cc), .int .i64 (if (st || !mb) then 131 else 0)]) ∧ Below w.heap.size w w' := by
  have HC := hid_of fun W => content_call 5 X aa ba ca an bn cn ac bc cc W
  rw [show cv 5 (.string X) (.slice aa an ac) (.slice ba bn bc) (.slice ca cn cc) = .iface 234 (.slice ca cn cc) from rfl] at HC
  obtain ⟨V, hV⟩ : ∃ V, V = w.alloc (.cells #[.int .i64 5, .string X, .slice aa an ac, .slice ba bn bc, .slice ca cn cc] 40) := ⟨_, rfl⟩
  have bV : Below w.heap.size w V := by rw [hV]; exact FRow.bnew w _
  have v0 : V.heap[w.heap.size]? = some (.cells #[.int .i64 5, .string X, .slice aa an ac, .slice ba bn bc, .slice ca cn cc] 40 (0, 0)) := by rw [hV]; exact heap_alloc_new w _
  have HV := hid_of hV
  have HB := hid_of bV
  have HX := hid_of fun (W : World) (hW : Below V.heap.size V W) => box5 ((hW.block _ (lt_of v0)).trans v0)
  clear v0 bV hV
  go_enter Tryz.func95, Tryz.ntmps95
  go_wp2_with fail
  rw [← HV.out]
  refine (HC.out V).mono ?_
  rintro e w1 ⟨rfl, b1⟩
  obtain ⟨⟨c0, c1, c2, c3, c4⟩, _⟩ := HX.out w1 b1
  have B1 := hid_of (FRow.bel HB.out b1 (Nat.le_refl _))
  clear b1 HC HX
  go_wp2_with fail
  refine (HS.out w1 B1.out).mono ?_
  rintro e w2 ⟨rfl, b2⟩
  have B2 := hid_of (FRow.bel B1.out b2 (Nat.le_refl _))
  clear b2 HS c0 c1 c2 c3 c4
  cases st
  · go_wp2_with fail
    refine (HM.out w2 B2.out).mono ?_
    rintro e w3 ⟨rfl, b3⟩
    have B3 := hid_of (FRow.bel B2.out b3 (Nat.le_refl _))
    clear b3 HM
    cases mb
    · go_wp2_with fail
      go_ret2
      exact ⟨rfl, B3.out⟩
    · go_wp2_with fail
      go_ret2
      exact ⟨rfl, B3.out⟩
  · go_wp2_with fail
    go_ret2
    exact ⟨rfl, B2.out⟩

set_option maxHeartbeats 2000000 in
set_option maxRecDepth 100000 in
theorem raw0 (k : Int) (hk : k < 1 ∨ 5 < k) (X : ByteArray) (aa ba ca : Option Addr) (an bn cn ac bc cc : Nat) (w : World) :
    Calls Tryz.prog 95 #[.agg #[.int .i64 k, .string X, .slice aa an ac, .slice ba bn bc, .slice ca cn cc]] w fun e w' => e = .returned (.tuple #[.nilIface, .int .i64 130]) ∧ Below w.heap.size w w' := by
  have HC := hid_of fun W => content_call k X aa ba ca an bn cn ac bc cc W
  rw [show cv k (.string X) (.slice aa an ac) (.slice ba bn bc) (.slice ca cn cc) = .nilIface from by unfold cv; rw [if_neg (by omega), if_neg (by omega), if_neg (by omega), if_neg (by omega), if_neg (by omega)]] at HC
  obtain ⟨V, hV⟩ : ∃ V, V = w.alloc (.cells #[.int .i64 k, .string X, .slice aa an ac, .slice ba bn bc, .slice ca cn cc] 40) := ⟨_, rfl⟩
  have bV : Below w.heap.size w V := by rw [hV]; exact FRow.bnew w _
  have HV := hid_of hV
  have HB := hid_of bV
  clear bV hV
  go_enter Tryz.func95, Tryz.ntmps95
  go_wp2_with fail
  rw [← HV.out]
  refine (HC.out V).mono ?_
  rintro e w1 ⟨rfl, b1⟩
  have B1 := hid_of (FRow.bel HB.out b1 (Nat.le_refl _))
  clear b1 HC
  go_wp2_with fail
  go_ret2
  exact ⟨rfl, B1.out⟩
/- what checked answers -/
def ckC (x : Vl) (a b c : Value) : Value := if chk x = 0 then cv x.kind (.string (mk x.text)) a b c else .nilIface
theorem chk_k {x : Vl} (h : 1 ≤ x.kind ∧ x.kind ≤ 5) : chk x = if (stray x || !mayBe x) then 131 else 0 := by
  unfold chk
  rw [if_neg (by omega)]
  cases stray x <;> cases mayBe x <;> simp
theorem checked_call {w : World} {a b c : Value} {x : Vl} (h1 : SL TT w a x.list) (h2 : FRow.FS w b x.fields) (h3 : ERow.FS w c x.ranked) (hf : Wel x) :
    Calls Tryz.prog 95 #[.agg #[.int .i64 x.kind, .string (mk x.text), a, b, c]] w fun e w' => e = .returned (.tuple #[ckC x a b c, .int .i64 (chk x)]) ∧ Below w.heap.size w w' := by
  by_cases hk : x.kind < 1 ∨ 5 < x.kind
  · obtain ⟨aa, ac, rfl, _, _⟩ := id h1
    obtain ⟨ba, bc, rfl, _, _⟩ := id h2
    obtain ⟨ca, cc, rfl, _, _⟩ := id h3
    refine (raw0 x.kind hk (mk x.text) aa ba ca _ _ _ ac bc cc w).mono fun e w' ⟨q1, q2⟩ => ⟨?_, q2⟩
    have e1 : chk x = 130 := by unfold chk; rw [if_pos hk]
    rw [q1]
    unfold ckC
    rw [e1]
    rfl
  · have HS : Hid (∀ W, Below w.heap.size w W → Calls Tryz.prog 140 #[.agg #[.int .i64 x.kind, .string (mk x.text), a, b, c]] W fun e w' => e = .returned (.bool (stray x)) ∧ Below W.heap.size W w') := hid_of fun W hW => by
      obtain ⟨aa, ac, rfl, _, _⟩ := id h1
      obtain ⟨ba, bc, rfl, _, _⟩ := id h2
      obtain ⟨ca, cc, rfl, _, _⟩ := id h3
      rw [stray_eq]
      refine Stray.stray_raw x.kind (by omega) (mk x.text) aa ba ca _ _ _ ac bc cc _ _ _ _ ?_ ?_ ?_ ?_ ?_ ?_ ?_ W
      · rw [mk_list]; cases x.text <;> rfl
      · rw [nil_len]; simp
      · rw [nil_len]; simp
      · rw [nil_len]; simp
      · rw [nil_len]
      · rw [nil_len]
      · rw [nil_len]
    have hl := hf.l
    have hr := hf.r24
    have hff := hf.f
    have fin : ∀ (V : Value), (1 ≤ x.kind ∧ x.kind ≤ 5) → cv x.kind (.string (mk x.text)) a b c = V → ∀ (e : Ending) (w' : World), (e = .returned (.tuple #[if (stray x || !mayBe x) then .nilIface else V, .int .i64 (if (stray x || !mayBe x) then 131 else 0)]) ∧ Below w.heap.size w w') → (e = .returned (.tuple #[ckC x a b c, .int .i64 (chk x)]) ∧ Below w.heap.size w w') := fun V hkk hcv e w' ⟨q1, q2⟩ => by
      refine ⟨?_, q2⟩
      rw [q1]
      unfold ckC
      rw [hcv, chk_k hkk]
      cases (stray x || !mayBe x) <;> rfl
    rcases (show x.kind = 1 ∨ x.kind = 2 ∨ x.kind = 3 ∨ x.kind = 4 ∨ x.kind = 5 by omega) with q | q | q | q | q
    · have HM : Hid (∀ W, Below w.heap.size w W → Calls Tryz.prog 256 #[.string (mk x.text)] W fun e w' => e = .returned (.bool (mayBe x)) ∧ Below W.heap.size W w') := hid_of fun W hW => (text_call x.text W hf.t).mono fun e w' ⟨p1, p2⟩ => ⟨by rw [p1]; unfold mayBe; rw [if_pos q], by rw [p2]; exact Below.refl _ _⟩
      have f := fin (.iface 230 (.string (mk x.text))) (by omega) (by rw [q]; rfl)
      rw [q] at HS ⊢
      obtain ⟨aa, ac, rfl, _, _⟩ := id h1
      obtain ⟨ba, bc, rfl, _, _⟩ := id h2
      obtain ⟨ca, cc, rfl, _, _⟩ := id h3
      exact (raw1 (mk x.text) aa ba ca _ _ _ ac bc cc (stray x) (mayBe x) w HS HM).mono f
    · have HM : Hid (∀ W, Below w.heap.size w W → Calls Tryz.prog 259 #[a] W fun e w' => e = .returned (.bool (mayBe x)) ∧ Below W.heap.size W w') := hid_of fun W hW => (list_call (h1.below hW) (by omega) hf.ls).mono fun e w' ⟨p1, p2⟩ => ⟨by rw [p1]; unfold mayBe; rw [if_neg (by omega), if_pos q], by rw [p2]; exact Below.refl _ _⟩
      have f := fin (.iface 231 a) (by omega) (by rw [q]; rfl)
      rw [q] at HS ⊢
      obtain ⟨aa, ac, rfl, _, _⟩ := id h1
      obtain ⟨ba, bc, rfl, _, _⟩ := id h2
      obtain ⟨ca, cc, rfl, _, _⟩ := id h3
      exact (raw2 (mk x.text) aa ba ca _ _ _ ac bc cc (stray x) (mayBe x) w HS HM).mono f
    · have HM : Hid (∀ W, Below w.heap.size w W → Calls Tryz.prog 262 #[b] W fun e w' => e = .returned (.bool (mayBe x)) ∧ Below W.heap.size W w') := hid_of fun W hW => (hash_call (h2.below hW) hff hf.fs).mono fun e w' ⟨p1, p2⟩ => ⟨by rw [p1]; unfold mayBe; rw [if_neg (by omega), if_neg (by omega), if_pos q], p2⟩
      have f := fin (.iface 232 b) (by omega) (by rw [q]; rfl)
      rw [q] at HS ⊢
      obtain ⟨aa, ac, rfl, _, _⟩ := id h1
      obtain ⟨ba, bc, rfl, _, _⟩ := id h2
      obtain ⟨ca, cc, rfl, _, _⟩ := id h3
      exact (raw3 (mk x.text) aa ba ca _ _ _ ac bc cc (stray x) (mayBe x) w HS HM).mono f
    · have HM : Hid (∀ W, Below w.heap.size w W → Calls Tryz.prog 265 #[a] W fun e w' => e = .returned (.bool (mayBe x)) ∧ Below W.heap.size W w') := hid_of fun W hW => (set_call (h1.below hW) (by omega) hf.ls).mono fun e w' ⟨p1, p2⟩ => ⟨by rw [p1]; unfold mayBe; rw [if_neg (by omega), if_neg (by omega), if_neg (by omega), if_pos q], p2⟩
      have f := fin (.iface 233 a) (by omega) (by rw [q]; rfl)
      rw [q] at HS ⊢
      obtain ⟨aa, ac, rfl, _, _⟩ := id h1
      obtain ⟨ba, bc, rfl, _, _⟩ := id h2
      obtain ⟨ca, cc, rfl, _, _⟩ := id h3
      exact (raw4 (mk x.text) aa ba ca _ _ _ ac bc cc (stray x) (mayBe x) w HS HM).mono f
    · have HM : Hid (∀ W, Below w.heap.size w W → Calls Tryz.prog 269 #[c] W fun e w' => e = .returned (.bool (mayBe x)) ∧ Below W.heap.size W w') := hid_of fun W hW => (rank_call (h3.below hW) hr hf.rs).mono fun e w' ⟨p1, p2⟩ => ⟨by rw [p1]; unfold mayBe; rw [if_neg (by omega), if_neg (by omega), if_neg (by omega), if_neg (by omega)], p2⟩
      have f := fin (.iface 234 c) (by omega) (by rw [q]; rfl)
      rw [q] at HS ⊢
      obtain ⟨aa, ac, rfl, _, _⟩ := id h1
      obtain ⟨ba, bc, rfl, _, _⟩ := id h2
      obtain ⟨ca, cc, rfl, _, _⟩ := id h3
      exact (raw5 (mk x.text) aa ba ca _ _ _ ac bc cc (stray x) (mayBe x) w HS HM).mono f
set_option maxHeartbeats 2000000 in
set_option maxRecDepth 100000 in
theorem check_call {w : World} {v : Value} {x : Vl} (h : VA w v x) (hf : Wel x) :
    Calls Tryz.prog 50 #[v] w fun e w' => e = .returned (.int .i64 (chk x)) ∧ Below w.heap.size w w' := by
  obtain ⟨a, b, c, rfl, h1, h2, h3⟩ := h
  have HC := hid_of fun (W : World) (hW : Below w.heap.size w W) => checked_call (h1.below hW) (h2.below hW) (h3.below hW) hf
  obtain ⟨aa, ac, rfl, _, _⟩ := id h1
  obtain ⟨ba, bc, rfl, _, _⟩ := id h2
  obtain ⟨ca, cc, rfl, _, _⟩ := id h3
  generalize ckC x (.slice aa x.list.length ac) (.slice ba (List.length x.fields) bc) (.slice ca (List.length x.ranked) cc) = C at *
  generalize chk x = E at *
  generalize x.kind = k at *
  generalize mk x.text = X at *
  generalize x.list.length = an at *
  generalize List.length x.fields = bn at *
  generalize List.length x.ranked = cn at *
  obtain ⟨V, hV⟩ : ∃ V, V = w.alloc (.cells #[.int .i64 k, .string X, .slice aa an ac, .slice ba bn bc, .slice ca cn cc] 40) := ⟨_, rfl⟩
  have bV : Below w.heap.size w V := by rw [hV]; exact FRow.bnew w _
  have HV := hid_of hV
  have HB := hid_of bV
  clear bV hV h1 h2 h3
  go_enter Tryz.func50, Tryz.ntmps50
  go_wp2_with fail
  rw [← HV.out]
  refine (HC.out V HB.out).mono ?_
  rintro e w1 ⟨rfl, b1⟩
  have B1 := hid_of (FRow.bel HB.out b1 (Nat.le_refl _))
  clear b1 HC
  go_wp2_with fail
  go_ret
  exact ⟨rfl, B1.out⟩
end Go.Proofs.YtpibeabokedpdaaGreatDoor.Check
end
section
namespace Go.Proofs.YtpibeabokedpdaaGreatDoor.ReadMath
open Go.Proofs.YtpibeabokedpdaaGreatDoor.SetMath
open Go.Proofs.YtpibeabokedpdaaGreatDoor.BytesMath
open Go.Proofs.YtpibeabokedpdaaGreatDoor.FixMath
open Go.Proofs.YtpibeabokedpdaaGreatDoor.ValueMath
set_option linter.unusedVariables false
abbrev RS := Bs × Bool
def tkS (n : Nat) (s : RS) : Bs × RS := if s.2 = true ∨ s.1.length < n then ([], s.1, true) else (s.1.take n, s.1.drop n, false)
def unN (t : Bs) : Nat := if 1 ≤ t.length ∧ t.length ≤ 8 then leN t else 0
def nbS (w : Nat) (s : RS) : Nat × RS := (unN (tkS w s).1, (tkS w s).2)
def txS (s : RS) : Bs × RS := tkS (nbS 4 s).1 (nbS 4 s).2
def fdS (s : RS) : (Bs × Bs) × RS := (((txS s).1, (txS (txS s).2).1), (txS (txS s).2).2)
def scS (s : RS) : (Bs × Int) × RS := (((txS (nbS 8 s).2).1, IntKind.i64.wrap (nbS 8 s).1), (txS (nbS 8 s).2).2)
theorem tk_bad (n : Nat) (r : Bs) : tkS n (r, true) = ([], r, true) := by unfold tkS; rw [if_pos (Or.inl rfl)]
theorem tk_no {n : Nat} {r : Bs} (f : Bool) (h : r.length < n) : tkS n (r, f) = ([], r, true) := by unfold tkS; rw [if_pos (Or.inr h)]
theorem tk_ok {n : Nat} {r : Bs} (h : n ≤ r.length) : tkS n (r, false) = (r.take n, r.drop n, false) := by
  unfold tkS
  rw [if_neg (by rintro (h1 | h1); cases h1; exact absurd h (by simpa using h1))]
theorem nb_bad (w : Nat) (r : Bs) : nbS w (r, true) = (0, r, true) := by unfold nbS; rw [tk_bad]; rfl
theorem nb_some {w : Nat} {r r' : Bs} {n : Nat} (h1 : 1 ≤ w) (h8 : w ≤ 8) (h : rdN w r = some (n, r')) : nbS w (r, false) = (n, r', false) := by
  unfold rdN at h
  split at h
  · cases h
  · injection h with h
    injection h with e1 e2
    unfold nbS
    rw [tk_ok (by omega)]
    simp only [unN]
    rw [if_pos (by rw [List.length_take]; omega), e1, e2]
theorem nb_none {w : Nat} {r : Bs} (f : Bool) (h : rdN w r = none) : nbS w (r, f) = (0, r, true) := by
  unfold rdN at h
  split at h
  · unfold nbS
    rw [tk_no f (by assumption)]
    rfl
  · cases h
theorem tx_bad (r : Bs) : txS (r, true) = ([], r, true) := by unfold txS; rw [nb_bad]; exact tk_bad 0 r
theorem tx_some {r r' t : Bs} (h : rdT r = some (t, r')) : txS (r, false) = (t, r', false) := by
  unfold rdT at h
  obtain ⟨⟨n, r1⟩, h1, h2⟩ := Option.bind_eq_some_iff.1 h
  unfold txS
  rw [nb_some (by decide) (by decide) h1]
  simp only at h2 ⊢
  unfold rdTk at h2
  split at h2
  · cases h2
  · injection h2 with h2
    injection h2 with e1 e2
    rw [tk_ok (by omega), e1, e2]
theorem tx_none {r : Bs} (h : rdT r = none) : ∃ r', txS (r, false) = ([], r', true) := by
  unfold rdT at h
  unfold txS
  cases e : rdN 4 r with
  | none => rw [nb_none _ e]; exact ⟨r, tk_bad 0 r⟩
  | some q =>
    obtain ⟨n, r1⟩ := q
    rw [e] at h
    rw [nb_some (by decide) (by decide) e]
    change rdTk n r1 = none at h
    unfold rdTk at h
    split at h
    · exact ⟨r1, tk_no false (by assumption)⟩
    · cases h
theorem fd_some {r r' : Bs} {p : Bs × Bs} (h : rdF r = some (p, r')) : fdS (r, false) = (p, r', false) := by
  unfold rdF at h
  obtain ⟨⟨a, r1⟩, h1, h2⟩ := Option.bind_eq_some_iff.1 h
  obtain ⟨⟨b, r2⟩, h3, h4⟩ := Option.bind_eq_some_iff.1 h2
  injection h4 with h4
  injection h4 with h5 h6
  simp only at h3 h5 h6
  unfold fdS
  rw [tx_some h1]
  simp only
  rw [tx_some h3, ← h5, ← h6]
theorem fd_none {r : Bs} (h : rdF r = none) : ∃ p r', fdS (r, false) = (p, r', true) := by
  unfold rdF at h
  unfold fdS
  cases e : rdT r with
  | none =>
    obtain ⟨r1, h1⟩ := tx_none e
    rw [h1]
    simp only
    rw [tx_bad]
    exact ⟨_, _, rfl⟩
  | some q =>
    obtain ⟨a, r1⟩ := q
    rw [e] at h
    rw [tx_some e]
    simp only
    cases e2 : rdT r1 with
    | none =>
      obtain ⟨r2, h2⟩ := tx_none e2
      rw [h2]
      exact ⟨_, _, rfl⟩
    | some q2 =>
      change ((rdT r1).bind _) = none at h
      rw [e2] at h
      cases h
theorem sc_some {r r' : Bs} {p : Bs × Int} (h : rdE r = some (p, r')) : scS (r, false) = (p, r', false) := by
  unfold rdE at h
  obtain ⟨⟨a, r1⟩, h1, h2⟩ := Option.bind_eq_some_iff.1 h
  obtain ⟨⟨b, r2⟩, h3, h4⟩ := Option.bind_eq_some_iff.1 h2
  injection h4 with h4
  injection h4 with h5 h6
  simp only at h3 h5 h6
  unfold scS
  rw [nb_some (by decide) (by decide) h1]
  simp only
  rw [tx_some h3, ← h5, ← h6]
theorem sc_none {r : Bs} (h : rdE r = none) : ∃ p r', scS (r, false) = (p, r', true) := by
  unfold rdE at h
  unfold scS
  cases e : rdN 8 r with
  | none =>
    rw [nb_none _ e]
    simp only
    rw [tx_bad]
    exact ⟨_, _, rfl⟩
  | some q =>
    obtain ⟨a, r1⟩ := q
    rw [e] at h
    rw [nb_some (by decide) (by decide) e]
    simp only
    cases e2 : rdT r1 with
    | none =>
      obtain ⟨r2, h2⟩ := tx_none e2
      rw [h2]
      exact ⟨_, _, rfl⟩
    | some q2 =>
      change ((rdT r1).bind _) = none at h
      rw [e2] at h
      cases h
/- what is left is an end of what there was -/
theorem tk_le (n : Nat) (s : RS) : (tkS n s).2.1.length ≤ s.1.length ∧ (tkS n s).1.length ≤ s.1.length := by
  unfold tkS
  split
  · simp
  · simp; omega
theorem nb_le (w : Nat) (s : RS) : (nbS w s).2.1.length ≤ s.1.length := (tk_le w s).1
theorem tx_le (s : RS) : (txS s).2.1.length ≤ s.1.length ∧ (txS s).1.length ≤ s.1.length := by
  have h1 := tk_le (nbS 4 s).1 (nbS 4 s).2
  have h2 := nb_le 4 s
  unfold txS
  omega
theorem nb_lt (w : Nat) (s : RS) (hw : w ≤ 8) : (nbS w s).1 < 256 ^ w := by
  unfold nbS unN
  have h1 : (tkS w s).1.length ≤ w := by
    unfold tkS
    split
    · simp
    · simp; omega
  have h2 := leN_lt (tkS w s).1
  have h3 : 256 ^ (tkS w s).1.length ≤ 256 ^ w := Nat.pow_le_pow_right (by omega) h1
  have h4 : 0 < 256 ^ w := Nat.pow_pos (by omega)
  simp only
  split
  · omega
  · exact h4
end Go.Proofs.YtpibeabokedpdaaGreatDoor.ReadMath
end
