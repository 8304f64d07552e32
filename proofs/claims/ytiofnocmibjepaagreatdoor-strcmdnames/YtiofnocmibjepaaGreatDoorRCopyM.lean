/- The document's copy of a value. The document's fields, Ahead, Empty. The document's Ahead and ranked. The document's Check. -/
import Derived.Test.YtiofnocmibjepaaGreatDoorSSetM
import Derived.Test.YtiofnocmibjepaaGreatDoorCopyM
import Derived.Test.YtiofnocmibjepaaGreatDoorMayM
import Derived.Test.YtiofnocmibjepaaGreatDoorEqualM
import Derived.Test.YtiofnocmibjepaaGreatDoorQCmdM
section
namespace Go.Proofs.YtiofnocmibjepaaGreatDoor.RCopy
open Go.RowKit Go.Maps
open Go.Proofs.YtiofnocmibjepaaGreatDoor.SetMath
open Go.Proofs.YtiofnocmibjepaaGreatDoor.ValueMath
open Go.Proofs.YtiofnocmibjepaaGreatDoor.Base
open Go.Proofs.YtiofnocmibjepaaGreatDoor.Vals
open Go.Proofs.YtiofnocmibjepaaGreatDoor.Copy (nr_set row_set set5)
set_option linter.unusedVariables false
set_option linter.unusedSimpArgs false

abbrev zB : Obj := .cells #[.int .i64 0, .string ⟨#[]⟩, .slice none 0 0, .slice none 0 0, .slice none 0 0] 40
theorem fin_nr {w : World} {B b : Nat} {v : Value} {l : List El} (h : NR B w v l) (hb : b + 3 ≤ B) {y y0 y1 y2 y3 y4 : Value} :
    NR b ((((((w.setCell ⟨b + 1 + 1, 4, none⟩ y).setCell ⟨b + 1, 0, none⟩ y0).setCell ⟨b + 1, 1, none⟩ y1).setCell ⟨b + 1, 2, none⟩ y2).setCell ⟨b + 1, 3, none⟩ y3).setCell ⟨b + 1, 4, none⟩ y4) v l :=
  (nr_set (nr_set (nr_set (nr_set (nr_set (nr_set h (by omega) y) (by omega) y0) (by omega) y1) (by omega) y2) (by omega) y3) (by omega) y4).mono (by omega)
theorem fin_row {w : World} {B b e sz n : Nat} {v : Value} {xs : List Value} (h : w.ownsRow B e sz v n xs) (hb : b + 3 ≤ B) {y y0 y1 y2 y3 y4 : Value} :
    ((((((w.setCell ⟨b + 1 + 1, 4, none⟩ y).setCell ⟨b + 1, 0, none⟩ y0).setCell ⟨b + 1, 1, none⟩ y1).setCell ⟨b + 1, 2, none⟩ y2).setCell ⟨b + 1, 3, none⟩ y3).setCell ⟨b + 1, 4, none⟩ y4).ownsRow b e sz v n xs :=
  FRow.row_mono (row_set (row_set (row_set (row_set (row_set (row_set h (by omega) y) (by omega) y0) (by omega) y1) (by omega) y2) (by omega) y3) (by omega) y4) (by omega)
theorem fin_b {w w' : World} {b : Nat} (h : Below b w w') {y y0 y1 y2 y3 y4 : Value} :
    Below b w ((((((w'.setCell ⟨b + 1 + 1, 4, none⟩ y).setCell ⟨b + 1, 0, none⟩ y0).setCell ⟨b + 1, 1, none⟩ y1).setCell ⟨b + 1, 2, none⟩ y2).setCell ⟨b + 1, 3, none⟩ y3).setCell ⟨b + 1, 4, none⟩ y4) :=
  bset (bset (bset (bset (bset (bset h (by omega) y) (Nat.le_succ _) y0) (Nat.le_succ _) y1) (Nat.le_succ _) y2) (Nat.le_succ _) y3) (Nat.le_succ _) y4
theorem keep_at {W w : World} {b i k : Nat} {v : Value} {o : Option Obj} (hW : W = w.setCell ⟨b, i, none⟩ v) (h : w.heap[k]? = o) (hk : k ≠ b) : W.heap[k]? = o := by rw [hW]; exact (set_ne hk _).trans h
set_option maxHeartbeats 4000000 in
set_option maxRecDepth 100000 in
theorem rcopy_call {w : World} {v : Value} {x : Vl} (h : VA w v x) (hf : Fit x) :
    Calls Tryz.prog 61 #[v] w fun e w' => ∃ u, e = .returned u ∧ VN w.heap.size w' u x ∧ Below w.heap.size w w' := by
  obtain ⟨a, b, c, rfl, h1, h2, h3⟩ := h
  obtain ⟨f1, f2, f3⟩ := hf
  obtain ⟨xk, xt, xl, xf, xr⟩ := x
  simp only at h1 h2 h3 f1 f2 f3 ⊢
  obtain ⟨la, lc, rfl, _, hr1⟩ := id h1
  obtain ⟨fa, fc, rfl, _, _⟩ := id h2
  obtain ⟨ea, ec, rfl, _, _⟩ := id h3
  obtain ⟨V, hV⟩ : ∃ V, V = ((w.alloc (.cells #[.int .i64 xk, .string (mk xt), .slice la xl.length lc, .slice fa xf.length fc, .slice ea xr.length ec] 40)).alloc zB).alloc (.cells #[.int .i64 xk, .string (mk xt), .slice la xl.length lc, .slice fa xf.length fc, .slice ea xr.length ec] 40) := ⟨_, rfl⟩
  have bV : Below w.heap.size w V := by rw [hV]; exact FRow.bel (FRow.bel (FRow.bnew w _) (FRow.bnew _ _) (Nat.le_refl _)) (FRow.bnew _ _) (Nat.le_refl _)
  have sV : V.heap.size = w.heap.size + 3 := by rw [hV]; simp
  have v0 : V.heap[w.heap.size]? = some (.cells #[.int .i64 xk, .string (mk xt), .slice la xl.length lc, .slice fa xf.length fc, .slice ea xr.length ec] 40 (0, 0)) := by rw [hV, hao _ _ _ (by simp; omega), hao _ _ _ (by simp)]; exact heap_alloc_new w _
  have v1 : V.heap[w.heap.size + 1]? = some (.cells #[.int .i64 0, .string ⟨#[]⟩, .slice none 0 0, .slice none 0 0, .slice none 0 0] 40 (0, 0)) := by
    rw [hV, hao _ _ _ (by simp)]
    have := heap_alloc_new (w.alloc (.cells #[.int .i64 xk, .string (mk xt), .slice la xl.length lc, .slice fa xf.length fc, .slice ea xr.length ec] 40)) zB
    simpa using this
  have v2 : V.heap[w.heap.size + 2]? = some (.cells #[.int .i64 xk, .string (mk xt), .slice la xl.length lc, .slice fa xf.length fc, .slice ea xr.length ec] 40 (0, 0)) := by
    rw [hV]
    have := heap_alloc_new ((w.alloc (.cells #[.int .i64 xk, .string (mk xt), .slice la xl.length lc, .slice fa xf.length fc, .slice ea xr.length ec] 40)).alloc zB) (.cells #[.int .i64 xk, .string (mk xt), .slice la xl.length lc, .slice fa xf.length fc, .slice ea xr.length ec] 40)
    simpa using this
  obtain ⟨r1, w1, hr1, n1, b1⟩ := app_any (B := V.heap.size) (v := .slice none 0 0) (l := []) (c := lc) (w := V) (.inl ⟨rfl, rfl⟩) (hr1.keep fun k hk _ => bV.block k hk) (.inl (by simpa using f1)) (Nat.le_refl _) 22
  rw [List.nil_append] at n1
  obtain ⟨w1', hw1'⟩ : ∃ W, W = w1.setCell ⟨w.heap.size + 2, 2, none⟩ r1 := ⟨_, rfl⟩
  have sz1 := b1.size
  have B1 : Below w.heap.size w w1' := by rw [hw1']; exact bset (FRow.bel bV b1 (Nat.le_refl _)) (by omega) r1
  have x0 := (b1.block w.heap.size (by omega)).trans v0
  have x1 := (b1.block (w.heap.size + 1) (by omega)).trans v1
  have x2 := (b1.block (w.heap.size + 2) (by omega)).trans v2
  have y0 := keep_at hw1' x0 (by omega)
  have y1 := keep_at hw1' x1 (by omega)
  have y2 : w1'.heap[w.heap.size + 2]? = some (.cells #[.int .i64 xk, .string (mk xt), r1, .slice fa xf.length fc, .slice ea xr.length ec] 40 (0, 0)) := by rw [hw1']; exact set_at x2 _
  have m1 : NR V.heap.size w1' r1 xl := by rw [hw1']; exact nr_set n1 (by omega) _
  have szw : w1'.heap.size = w1.heap.size := by rw [hw1', size_set]
  obtain ⟨r2, w2, hr2, d2⟩ := FRow.bd_app (FRow.bd_start w1') (.slice fa xf.length fc) xf (h2.below B1) (by simpa using f2)
  rw [List.nil_append] at d2
  obtain ⟨w2', hw2'⟩ : ∃ W, W = w2.setCell ⟨w.heap.size + 2, 3, none⟩ r2 := ⟨_, rfl⟩
  have sz2 := d2.bel.size
  have B2 : Below w.heap.size w w2' := by rw [hw2']; exact bset (FRow.bel B1 d2.bel (Nat.le_refl _)) (by omega) r2
  have p0 := (d2.bel.block w.heap.size (by omega)).trans y0
  have p1 := (d2.bel.block (w.heap.size + 1) (by omega)).trans y1
  have p2 := (d2.bel.block (w.heap.size + 2) (by omega)).trans y2
  have q0 := keep_at hw2' p0 (by omega)
  have q1 := keep_at hw2' p1 (by omega)
  have q2 : w2'.heap[w.heap.size + 2]? = some (.cells #[.int .i64 xk, .string (mk xt), r1, r2, .slice ea xr.length ec] 40 (0, 0)) := by rw [hw2']; exact set_at p2 _
  have m2 : NR V.heap.size w2' r1 xl := by rw [hw2']; exact nr_set (m1.below d2.bel) (by omega) _
  have m3 : FRow.OR w1'.heap.size w2' r2 xf := by rw [hw2']; exact row_set d2.row (by omega) _
  have szx : w2'.heap.size = w2.heap.size := by rw [hw2', size_set]
  obtain ⟨r3, w3, hr3, d3⟩ := ERow.bd_app (ERow.bd_start w2') (.slice ea xr.length ec) xr (h3.below B2) (by simpa using f3)
  rw [List.nil_append] at d3
  have sz3 := d3.bel.size
  have B3 := FRow.bel B2 d3.bel (Nat.le_refl _)
  have k0 := (d3.bel.block w.heap.size (by omega)).trans q0
  have k1 := (d3.bel.block (w.heap.size + 1) (by omega)).trans q1
  have k2 := (d3.bel.block (w.heap.size + 2) (by omega)).trans q2
  have o1 := m2.below d3.bel
  have o2 := FRow.row_below m3 d3.bel
  have o3 := d3.row
  obtain ⟨ra1, rc1, hs1, _⟩ := n1.shape
  obtain ⟨ra2, rc2, hs2⟩ := shapeFRow d2.row
  obtain ⟨ra3, rc3, hs3⟩ := shapeERow d3.row
  subst hs1 hs2 hs3
  have HF := hid_of (And.intro B3 (And.intro k1 (And.intro (And.intro o1 sV) (And.intro (And.intro o2 (show w.heap.size + 3 ≤ w1'.heap.size by omega)) (And.intro o3 (show w.heap.size + 3 ≤ w2'.heap.size by omega))))))
  obtain ⟨⟨a0, a1, a2, a3, a4⟩, _⟩ := box5 v0
  obtain ⟨⟨_, _, _, i3, _⟩, _⟩ := box5 x0
  obtain ⟨_, jz⟩ := box5 x2
  have jz2 := jz 2
  obtain ⟨⟨_, _, _, i3', _⟩, _⟩ := box5 y0
  obtain ⟨_, ez⟩ := box5 p2
  have ez3 := ez 3
  obtain ⟨⟨_, _, _, _, i4⟩, _⟩ := box5 p0
  obtain ⟨⟨l0, l1, l2, l3, l4⟩, lz⟩ := box5 k2
  have lz4 := lz 4
  obtain ⟨⟨u0, u1, u2, u3, u4⟩, uz⟩ := box5 k1
  have uz0 := uz 0
  have uz1 := uz 1
  have uz2 := uz 2
  have uz3 := uz 3
  have uz4 := uz 4
  have HV := hid_of hV
  have HX1 := hid_of hw1'
  have HX2 := hid_of hw2'
  clear h1 h2 h3 v0 v1 v2 x0 x1 x2 y0 y1 y2 p0 p1 p2 q0 q1 q2 k0 k1 k2 bV sV hV hw1' hw2' n1 b1 d2 d3 m1 m2 m3 B1 B2 B3 jz ez lz uz o1 o2 o3 szw szx sz1 sz2 sz3 f1 f2 f3
  go_enter Tryz.func61, Tryz.ntmps61
  go_wp2_with (first
    | (rw [← HV.out]; at_builtin; refine wpl_eq rfl _ _ 22 22 rfl (.slice none 0 0) (.slice la xl.length lc) (.slice ra1 xl.length rc1) V w1 rfl rfl hr1 ?_)
    | (rw [← HX1.out]; at_builtin; refine wpl_eq rfl _ _ 37 37 rfl (.slice none 0 0) (.slice fa xf.length fc) (.slice ra2 xf.length rc2) w1' w2 rfl rfl hr2 ?_)
    | (rw [← HX2.out]; at_builtin; refine wpl_eq rfl _ _ 38 38 rfl (.slice none 0 0) (.slice ea xr.length ec) (.slice ra3 xr.length rc3) w2' w3 rfl rfl hr3 ?_))
  obtain ⟨B3, k1, ⟨o1, e1⟩, ⟨o2, e2⟩, o3, e3⟩ := HF.out
  have t1 := keep_at (W := w3.setCell ⟨w.heap.size + 1 + 1, 4, none⟩ (.slice ra3 xr.length rc3)) rfl k1 (by omega)
  obtain ⟨⟨g0, g1, g2, g3, g4⟩, _⟩ := box5 (set5 t1 (.int .i64 xk) (.string (mk xt)) (.slice ra1 xl.length rc1) (.slice ra2 xf.length rc2) (.slice ra3 xr.length rc3))
  refine ⟨rfl, .agg #[.int .i64 xk, .string (mk xt), .slice ra1 xl.length rc1, .slice ra2 xf.length rc2, .slice ra3 xr.length rc3], ?_, _, rfl, ⟨_, _, _, rfl, fin_nr o1 (by omega), fin_row o2 (by omega), fin_row o3 (by omega)⟩, fin_b B3⟩
  simp [results, Tryz.results61, go_sem, g0, g1, g2, g3, g4]
end Go.Proofs.YtiofnocmibjepaaGreatDoor.RCopy
end
section
namespace Go.Proofs.YtiofnocmibjepaaGreatDoor.RChk
open Go.RowKit Go.Maps
open Go.Proofs.YtiofnocmibjepaaGreatDoor.SetMath
open Go.Proofs.YtiofnocmibjepaaGreatDoor.ValueMath
open Go.Proofs.YtiofnocmibjepaaGreatDoor.Base
open Go.Proofs.YtiofnocmibjepaaGreatDoor.Vals
open Go.Proofs.YtiofnocmibjepaaGreatDoor.May
set_option linter.unusedVariables false
set_option linter.unusedSimpArgs false

def emp (x : Vl) : Bool := if x.kind = 1 then false else if x.kind = 2 ∨ x.kind = 4 then decide (x.list.length = 0) else if x.kind = 3 then decide (x.fields.length = 0) else if x.kind = 5 then decide (x.ranked.length = 0) else true
set_option maxHeartbeats 2000000 in
set_option maxRecDepth 100000 in
theorem empty_raw (k : Int) (X : ByteArray) (aa ba ca : Option Addr) (an bn cn ac bc cc : Nat) (w : World) :
    Calls Tryz.prog 151 #[.agg #[.int .i64 k, .string X, .slice aa an ac, .slice ba bn bc, .slice ca cn cc]] w fun e w' => e = .returned (.bool (if k = 1 then false else if k = 2 ∨ k = 4 then decide (an = 0) else if k = 3 then decide (bn = 0) else if k = 5 then decide (cn = 0) else true)) ∧ Below w.heap.size w w' := by
  by_cases h1 : k = 1
  · rw [if_pos h1]
    subst h1
    go_enter Tryz.func151, Tryz.ntmps151
    go_wp2
    go_ret
    exact ⟨rfl, FRow.bnew w _⟩
  · rw [if_neg h1]
    have e1 : (k == 1) = false := by simpa using h1
    by_cases h2 : k = 2
    · rw [if_pos (Or.inl h2)]
      subst h2
      go_enter Tryz.func151, Tryz.ntmps151
      go_wp2
      go_ret
      exact ⟨ret_b (by rw [Bool.eq_iff_iff]; simp), FRow.bnew w _⟩
    · have e2 : (k == 2) = false := by simpa using h2
      by_cases h4 : k = 4
      · rw [if_pos (Or.inr h4)]
        subst h4
        go_enter Tryz.func151, Tryz.ntmps151
        go_wp2
        go_ret
        exact ⟨ret_b (by rw [Bool.eq_iff_iff]; simp), FRow.bnew w _⟩
      · rw [if_neg (by omega)]
        have e4 : (k == 4) = false := by simpa using h4
        by_cases h3 : k = 3
        · rw [if_pos h3]
          subst h3
          go_enter Tryz.func151, Tryz.ntmps151
          go_wp2
          go_ret
          exact ⟨ret_b (by rw [Bool.eq_iff_iff]; simp), FRow.bnew w _⟩
        · rw [if_neg h3]
          have e3 : (k == 3) = false := by simpa using h3
          by_cases h5 : k = 5
          · rw [if_pos h5]
            subst h5
            go_enter Tryz.func151, Tryz.ntmps151
            go_wp2
            go_ret
            exact ⟨ret_b (by rw [Bool.eq_iff_iff]; simp), FRow.bnew w _⟩
          · rw [if_neg h5]
            have e5 : (k == 5) = false := by simpa using h5
            go_enter Tryz.func151, Tryz.ntmps151
            go_wp2
            go_ret
            exact ⟨rfl, FRow.bnew w _⟩
/- fields: each, then all -/
def fAt (l : FL) (k : Nat) : Bool := match l[k]? with
  | none => true
  | some e => tOk e.1 && (tOk e.2 && (k == 0 || match l[k - 1]? with
    | none => true
    | some a => decide (a.1 < e.1)))
theorem fAt_at {l : FL} {k : Nat} (hk : k < l.length) : fAt l k = (tOk l[k].1 && (tOk l[k].2 && (k == 0 || decide ((l[k - 1]'(by omega)).1 < l[k].1)))) := by
  unfold fAt
  rw [List.getElem?_eq_getElem hk, List.getElem?_eq_getElem (show k - 1 < l.length by omega)]
def fAll (l : FL) : Bool := (List.range l.length).all (fAt l)
theorem fAll_no {l : FL} {k : Nat} (hk : k < l.length) (h : fAt l k = false) : fAll l = false := by
  unfold fAll
  cases e : (List.range l.length).all (fAt l)
  · rfl
  · rw [List.all_eq_true.1 e k (List.mem_range.2 hk)] at h
    cases h
theorem fAll_yes {l : FL} (h : ∀ j, j < l.length → fAt l j = true) : fAll l = true := List.all_eq_true.2 fun j hj => h j (List.mem_range.1 hj)
theorem fn_at (l : FL) (k : Nat) (h : k < (fnames l).length) : (fnames l)[k] = (l[k]'(by simpa [fnames] using h)).1 := by simp [fnames]
theorem fAll_hash {l : FL} (h : 0 < l.length) : fAll l = hashOk l := by
  rw [Bool.eq_iff_iff]
  unfold hashOk setOk lOk
  simp only [Bool.and_eq_true, List.all_eq_true, decide_eq_true_eq]
  constructor
  · intro q
    have q' : ∀ j (hj : j < l.length), fAt l j = true := fun j hj => List.all_eq_true.1 q j (List.mem_range.2 hj)
    refine ⟨fun p hp => ?_, ⟨fun t ht => ?_, by unfold fnames; simpa using h⟩, ?_⟩
    · obtain ⟨j, hj, rfl⟩ := List.getElem_of_mem hp
      have := q' j hj
      rw [fAt_at hj] at this
      simp only [Bool.and_eq_true] at this
      exact this.2.1
    · obtain ⟨p, hp, rfl⟩ := List.mem_map.1 ht
      obtain ⟨j, hj, rfl⟩ := List.getElem_of_mem hp
      have := q' j hj
      rw [fAt_at hj] at this
      simp only [Bool.and_eq_true] at this
      exact this.1
    · refine Small.adj_ris fun k hk => ?_
      have hk' : k + 1 < l.length := by unfold fnames at hk; simpa using hk
      have := q' (k + 1) hk'
      rw [fAt_at hk'] at this
      simp only [Bool.and_eq_true, Bool.or_eq_true, decide_eq_true_eq] at this
      rw [fn_at, fn_at]
      rcases this.2.2 with q | q
      · simp at q
      · exact q
  · rintro ⟨h1, ⟨h2, _⟩, h3⟩
    refine fAll_yes fun j hj => ?_
    rw [fAt_at hj]
    simp only [Bool.and_eq_true, Bool.or_eq_true, decide_eq_true_eq]
    refine ⟨h2 _ (List.mem_map.2 ⟨l[j], List.getElem_mem hj, rfl⟩), h1 _ (List.getElem_mem hj), ?_⟩
    by_cases h0 : j = 0
    · left; simpa using h0
    · right
      have := ris_at (l := fnames l) h3 (i := j - 1) (j := j) (by omega) (by unfold fnames; simpa using hj)
      rw [fn_at, fn_at] at this
      exact this
set_option maxHeartbeats 8000000 in
set_option maxRecDepth 100000 in
theorem fields_call {w : World} {v : Value} {l : FL} (h : FRow.FS w v l) (hb : l.length ≤ 140737488355328) (hs : Fok l) :
    Calls Tryz.prog 153 #[v] w fun e w' => e = .returned (.bool (fAll l)) ∧ Below w.heap.size w w' := by
  have HF := hid_of h
  have HS := hid_of hs
  obtain ⟨a, c, rfl, hc, hr⟩ := h
  obtain ⟨L, HL⟩ : ∃ L, Hid (L = List.length l) := ⟨_, hid_of rfl⟩
  rw [← HL.out] at hb hc HF ⊢
  clear hr hs hc
  go_enter Tryz.func153, Tryz.ntmps153
  go_wp2_with fail
  go_loopg [3] L (fun g s3 wx => ∃ j : Nat, j ≤ L ∧ L ≤ j + g ∧ s3 = .int .i64 (j : Int) ∧ Hid (∀ i, i < j → fAt l i = true) ∧ Hid (Below w.heap.size w wx))
  case atStart => exact ⟨0, by omega, by omega, rfl, hid_of (fun i hi => by omega), hid_of (Below.refl _ _)⟩
  case round =>
    obtain ⟨j, hj, hg, rfl, HA, R⟩ := hrel
    by_cases hlt : j < L
    · obtain ⟨g', rfl⟩ : ∃ g', gk = g' + 1 := ⟨gk - 1, by omega⟩
      have hjl : j < List.length l := by rw [← HL.out]; exact hlt
      obtain ⟨ga, oa, rfl, ha⟩ := FRow.FS.at (HF.out.below R.out) hjl
      obtain ⟨a0, a1⟩ := ha j hjl
      obtain ⟨p0, p1⟩ := ha (j - 1) (by omega)
      clear ha
      have HO := hid_of (fAt_at hjl)
      have HN : Hid (fAt l j = true → ∀ i, i < j + 1 → fAt l i = true) := hid_of fun q i hi => by
        by_cases e : i = j
        · subst e; exact q
        · exact HA.out i (by omega)
      have HX : Hid (fAt l j = false → fAll l = false) := hid_of fun q => fAll_no hjl q
      have hs1 := HS.out.n _ (List.getElem_mem hjl)
      have hs2 := HS.out.v _ (List.getElem_mem hjl)
      generalize l[j - 1]'(by omega) = z at *
      generalize l[j] = x at *
      obtain ⟨x1, x2⟩ := x
      obtain ⟨z1, z2⟩ := z
      simp only at a0 a1 HN HX HO p0 p1 hs1 hs2
      have w1 : IntKind.i64.wrap ((j : Int) + 1) = (j : Int) + 1 := IntWalk.i64_in _ (by omega)
      have d1 : (j : Int) < (L : Int) := by omega
      have ll := str_lt z1 x1
      have m1 := mk_size x1
      have m2 := mk_size x2
      have k1 : decide ((1048576 : Int) < ((mk x1).size : Int)) = !tOk x1 := by unfold tOk; rw [m1, Bool.eq_iff_iff]; simp; omega
      have k2 : decide ((1048576 : Int) < ((mk x2).size : Int)) = !tOk x2 := by unfold tOk; rw [m2, Bool.eq_iff_iff]; simp; omega
      clear m1 m2 hs1 hs2
      generalize mk x1 = X1 at *
      generalize mk x2 = X2 at *
      generalize mk z1 = Z1 at *
      generalize mk z2 = Z2 at *
      generalize tOk x1 = b1 at *
      generalize tOk x2 = b2 at *
      generalize decide (z1 < x1) = b3 at *
      have fin : Hid (fAt l j = false → fAll l = false) := HX
      have wz : IntKind.i64.wrap ((j : Int) - 1) = ((j - 1 : Nat) : Int) ∨ j = 0 := by
        by_cases h0 : j = 0
        · exact Or.inr h0
        · left; rw [show ((j - 1 : Nat) : Int) = (j : Int) - 1 by omega]; exact IntWalk.i64_in _ (by omega)
      cases b1
      · have HZ := hid_of (HX.out (by rw [HO.out]; rfl))
        simp only [Bool.not_false] at k1
        clear HX HN HO fin wz k2 ll p0 p1
        go_wp2_with fail
        go_quiet (fail)
        go_wp2_with fail
        go_ret
        exact ⟨ret_b HZ.out.symm, FRow.bdrew R.out nq⟩
      · simp only [Bool.not_true] at k1
        cases b2
        · have HZ := hid_of (HX.out (by rw [HO.out]; rfl))
          simp only [Bool.not_false] at k2
          clear HX HN HO fin wz ll p0 p1
          go_wp2_with fail
          go_quiet (fail)
          go_wp2_with fail
          go_ret
          exact ⟨ret_b HZ.out.symm, FRow.bdrew R.out nq⟩
        · simp only [Bool.not_true] at k2
          by_cases h0 : j = 0
          · have h00 : decide ((0 : Int) < (j : Int)) = false := decide_eq_false (by omega)
            have h01 : decide (0 < j) = false := decide_eq_false (by omega)
            have HZ := hid_of (HN.out (by rw [HO.out, h0]; rfl))
            clear HX HN HO fin wz ll p0 p1 h0
            go_wp2_with fail
            go_quiet (fail)
            go_wp2_with fail
            go_roundg g'
            case measure => omega
            case rel => exact ⟨j + 1, by omega, by omega, by simp, HZ, hid_of (FRow.bdrew R.out nq)⟩
          · have h00 : decide ((0 : Int) < (j : Int)) = true := decide_eq_true (by omega)
            have h01 : decide (0 < j) = true := decide_eq_true (by omega)
            have wz' := wz.resolve_right h0
            have hj0 : (j == 0) = false := by simpa using h0
            have ix : j - 1 < L := by omega
            have HO2 := hid_of (HO.out.trans (by rw [hj0]; rfl : _ = b3))
            clear HO hj0 wz fin h0
            cases b3
            · have HZ := hid_of (HX.out HO2.out)
              clear HX HN HO2
              go_wp2_with fail
              go_quiet (fail)
              go_wp2_with fail
              go_ret
              exact ⟨ret_b HZ.out.symm, FRow.bdrew R.out nq⟩
            · have HZ := hid_of (HN.out HO2.out)
              clear HX HN HO2
              go_wp2_with fail
              go_quiet (fail)
              go_wp2_with fail
              go_roundg g'
              case measure => omega
              case rel => exact ⟨j + 1, by omega, by omega, by simp, HZ, hid_of (FRow.bdrew R.out nq)⟩
    · obtain rfl : j = L := by omega
      have d1 : ¬ (j : Int) < (j : Int) := by omega
      have HT : Hid (fAll l = true) := hid_of (fAll_yes fun i hi => HA.out i (by have := HL.out; omega))
      go_wp2_with fail
      go_ret
      exact ⟨ret_b HT.out.symm, R.out⟩
end Go.Proofs.YtiofnocmibjepaaGreatDoor.RChk
end
section
namespace Go.Proofs.YtiofnocmibjepaaGreatDoor.RRnk
open Go.RowKit Go.Maps
open Go.Proofs.YtiofnocmibjepaaGreatDoor.SetMath
open Go.Proofs.YtiofnocmibjepaaGreatDoor.ValueMath
open Go.Proofs.YtiofnocmibjepaaGreatDoor.Base
open Go.Proofs.YtiofnocmibjepaaGreatDoor.Vals
open Go.Proofs.YtiofnocmibjepaaGreatDoor.May
open Go.Proofs.YtiofnocmibjepaaGreatDoor.MayR
open Go.Proofs.YtiofnocmibjepaaGreatDoor.Cmp (eV)
set_option linter.unusedVariables false
set_option linter.unusedSimpArgs false

set_option maxHeartbeats 2000000 in
set_option maxRecDepth 100000 in
theorem ahead_call (a b : Bs × Int) (w : World) : Calls Tryz.prog 177 #[eV a, eV b] w fun e w' => e = .returned (.bool (ahd a b)) ∧ Below w.heap.size w w' := by
  obtain ⟨a1, a2⟩ := a
  obtain ⟨b1, b2⟩ := b
  have ll := str_lt a1 b1
  unfold eV ahd
  simp only
  generalize decide (a1 < b1) = d at *
  generalize mk a1 = X at *
  generalize mk b1 = Y at *
  by_cases h1 : a2 < b2
  · go_enter Tryz.func177, Tryz.ntmps177
    go_wp2
    go_ret
    exact ⟨ret_b (by simp [h1]), FRow.bel (FRow.bnew w _) (FRow.bnew _ _) (Nat.le_refl _)⟩
  · by_cases h2 : a2 = b2
    · subst h2
      have e2 : (a2 == a2) = true := by simp
      cases d
      · go_enter Tryz.func177, Tryz.ntmps177
        go_wp2
        go_ret
        exact ⟨ret_b (by simp), FRow.bel (FRow.bnew w _) (FRow.bnew _ _) (Nat.le_refl _)⟩
      · go_enter Tryz.func177, Tryz.ntmps177
        go_wp2
        go_ret
        exact ⟨ret_b (by simp), FRow.bel (FRow.bnew w _) (FRow.bnew _ _) (Nat.le_refl _)⟩
    · have e2 : (a2 == b2) = false := by simpa using h2
      go_enter Tryz.func177, Tryz.ntmps177
      go_wp2
      go_ret
      exact ⟨ret_b (by simp [h1, h2]), FRow.bel (FRow.bnew w _) (FRow.bnew _ _) (Nat.le_refl _)⟩
def rAt (l : EL) (k : Nat) : Bool := match l[k]? with
  | none => true
  | some e => tOk e.1 && okAt l k
def rAll (l : EL) : Bool := (List.range l.length).all (rAt l)
theorem rAt_at {l : EL} {k : Nat} (hk : k < l.length) : rAt l k = (tOk l[k].1 && (decide (-9007199254740992 ≤ l[k].2) && (decide (l[k].2 ≤ 9007199254740992) && (k == 0 || ahd (l[k - 1]'(by omega)) l[k])))) := by
  unfold rAt
  rw [List.getElem?_eq_getElem hk]
  simp only
  rw [okAt_at hk]
  unfold scOk
  rw [Bool.and_assoc]
theorem rAll_no {l : EL} {k : Nat} (hk : k < l.length) (h : rAt l k = false) : rAll l = false := by
  unfold rAll
  cases e : (List.range l.length).all (rAt l)
  · rfl
  · rw [List.all_eq_true.1 e k (List.mem_range.2 hk)] at h
    cases h
theorem rAll_yes {l : EL} (h : ∀ j, j < l.length → rAt l j = true) : rAll l = true := List.all_eq_true.2 fun j hj => h j (List.mem_range.1 hj)
def rkd (l : EL) : Bool := rAll l && ((S (enames l)).length == l.length)
theorem rkd_rank {l : EL} (h : 0 < l.length) : rkd l = rankOk l := by
  unfold rkd rankOk
  have e : rAll l = (ordB l && lOk (enames l)) := by
    rw [Bool.eq_iff_iff]
    unfold rAll ordB lOk
    simp only [Bool.and_eq_true, List.all_eq_true, decide_eq_true_eq, List.mem_range]
    constructor
    · intro q
      refine ⟨fun j hj => ?_, fun t ht => ?_, by unfold enames; simpa using h⟩
      · have := q j hj
        unfold rAt at this
        rw [List.getElem?_eq_getElem hj] at this
        simp only [Bool.and_eq_true] at this
        exact this.2
      · obtain ⟨p, hp, rfl⟩ := List.mem_map.1 ht
        obtain ⟨j, hj, rfl⟩ := List.getElem_of_mem hp
        have := q j hj
        unfold rAt at this
        rw [List.getElem?_eq_getElem hj] at this
        simp only [Bool.and_eq_true] at this
        exact this.1
    · rintro ⟨h1, h2, _⟩ j hj
      unfold rAt
      rw [List.getElem?_eq_getElem hj]
      simp only [Bool.and_eq_true]
      exact ⟨h2 _ (List.mem_map.2 ⟨l[j], List.getElem_mem hj, rfl⟩), h1 j hj⟩
  rw [e]
theorem en_take (l : EL) (j : Nat) (h : j < l.length) : enames (l.take j) ++ [l[j].1] = enames (l.take (j + 1)) := by
  unfold enames
  rw [List.take_succ_eq_append_getElem h, List.map_append]
  rfl
set_option maxHeartbeats 8000000 in
set_option maxRecDepth 100000 in
theorem ranked_call {w : World} {v : Value} {l : EL} (h : ERow.FS w v l) (hb : l.length * 24 ≤ 140737488355328) (hs : Rok l) :
    Calls Tryz.prog 154 #[v] w fun e w' => e = .returned (.bool (rkd l)) ∧ Below w.heap.size w w' := by
  have HF := hid_of h
  have HS := hid_of hs
  obtain ⟨a, c, rfl, hc, hr⟩ := h
  obtain ⟨L, HL⟩ : ∃ L, Hid (L = List.length l) := ⟨_, hid_of rfl⟩
  rw [← HL.out] at hb hc HF ⊢
  clear hr hs hc
  go_enter Tryz.func154, Tryz.ntmps154
  go_wp2_with fail
  go_loopg [3, 4] L (fun g s3 s4 wx => ∃ (j : Nat) (ra : Option Addr) (rc : Nat), j ≤ L ∧ L ≤ j + g ∧ s3 = .slice ra j rc ∧ s4 = .int .i64 (j : Int) ∧ Hid (∀ i, i < j → rAt l i = true) ∧ Hid (NR w.heap.size wx (.slice ra j rc) (enames (l.take j)) ∧ Below w.heap.size w wx))
  case atStart => exact ⟨0, none, 0, by omega, by omega, rfl, rfl, hid_of (fun i hi => by omega), hid_of ⟨.inl ⟨rfl, rfl⟩, Below.refl _ _⟩⟩
  case round =>
    obtain ⟨j, ra, rc, hj, hg, rfl, rfl, HA, R⟩ := hrel
    by_cases hlt : j < L
    · obtain ⟨g', rfl⟩ : ∃ g', gk = g' + 1 := ⟨gk - 1, by omega⟩
      have hjl : j < List.length l := by rw [← HL.out]; exact hlt
      obtain ⟨ga, oa, rfl, ha⟩ := ERow.FS.at (HF.out.below R.out.2) hjl
      obtain ⟨a0, a1⟩ := ha j hjl
      obtain ⟨p0, p1⟩ := ha (j - 1) (by omega)
      clear ha
      have HO := hid_of (rAt_at hjl)
      have HN : Hid (rAt l j = true → ∀ i, i < j + 1 → rAt l i = true) := hid_of fun q i hi => by
        by_cases e : i = j
        · subst e; exact q
        · exact HA.out i (by omega)
      have HX : Hid (rAt l j = false → rkd l = false) := hid_of fun q => by unfold rkd; rw [rAll_no hjl q]; rfl
      have HP := hid_of (fun W => ahead_call (l[j - 1]'(by omega)) l[j] W)
      have htl : (enames (l.take j)).length = j := by unfold enames; rw [List.length_map, List.length_take]; omega
      have HAP : Hid (∀ W, Below wr.heap.size wr W → ∃ ra' rc' w', (Builtin.append_ #[22, 22] 22 #[.slice ra j rc, .slice (some ⟨W.heap.size, 0, none⟩) 1 1]).run Tryz.prog (W.alloc (.cells #[.string (mk l[j].1)] 9)) = .ok (.slice ra' (j + 1) rc') w' ∧ Hid (NR w.heap.size w' (.slice ra' (j + 1) rc') (enames (l.take (j + 1))) ∧ Below w.heap.size w w')) := hid_of fun W hW => by
        obtain ⟨v', w', q1, q2, q3⟩ := app_one l[j].1 (R.out.1.below hW) (by rw [htl]; omega) (Nat.le_trans R.out.2.size hW.size) 22
        obtain ⟨ra', rc', e, _⟩ := q2.shape
        rw [en_take l j hjl] at q2 e
        have hl2 : (enames (l.take (j + 1))).length = j + 1 := by unfold enames; rw [List.length_map, List.length_take]; omega
        rw [hl2] at e
        rw [e] at q1 q2
        exact ⟨ra', rc', w', q1, q2, (FRow.bel R.out.2 hW (Nat.le_refl _)).trans q3⟩
      generalize l[j - 1]'(by omega) = z at *
      generalize l[j] = x at *
      obtain ⟨x1, x2⟩ := x
      obtain ⟨z1, z2⟩ := z
      simp only [eV] at a0 a1 HN HX HO p0 p1 HP HAP
      have w1 : IntKind.i64.wrap ((j : Int) + 1) = (j : Int) + 1 := IntWalk.i64_in _ (by omega)
      have d1 : (j : Int) < (L : Int) := by omega
      have m1 := mk_size x1
      have k1 : decide ((1048576 : Int) < ((mk x1).size : Int)) = !tOk x1 := by unfold tOk; rw [m1, Bool.eq_iff_iff]; simp; omega
      have k2 : decide (x2 < -9007199254740992) = !decide (-9007199254740992 ≤ x2) := by rw [Bool.eq_iff_iff]; simp
      have k3 : decide ((9007199254740992 : Int) < x2) = !decide (x2 ≤ 9007199254740992) := by rw [Bool.eq_iff_iff]; simp
      clear m1 htl
      generalize mk x1 = X1 at *
      generalize mk z1 = Z1 at *
      generalize tOk x1 = b1 at *
      generalize decide (-9007199254740992 ≤ x2) = b2 at *
      generalize decide (x2 ≤ 9007199254740992) = b3 at *
      generalize ahd (z1, z2) (x1, x2) = b4 at *
      cases b1
      · have HZ := hid_of (HX.out (by rw [HO.out]; rfl))
        simp only [Bool.not_false] at k1
        clear HX HN HO k2 k3 HP HAP p0 p1
        go_wp2_with fail
        go_quiet (fail)
        go_wp2_with fail
        go_ret
        exact ⟨ret_b HZ.out.symm, FRow.bdrew R.out.2 nq⟩
      · simp only [Bool.not_true] at k1
        cases b2
        · have HZ := hid_of (HX.out (by rw [HO.out]; rfl))
          simp only [Bool.not_false] at k2
          clear HX HN HO k3 HP HAP p0 p1
          go_wp2_with fail
          go_quiet (fail)
          go_wp2_with fail
          go_ret
          exact ⟨ret_b HZ.out.symm, FRow.bdrew R.out.2 nq⟩
        · simp only [Bool.not_true] at k2
          cases b3
          · have HZ := hid_of (HX.out (by rw [HO.out]; rfl))
            simp only [Bool.not_false] at k3
            clear HX HN HO HP HAP p0 p1
            go_wp2_with fail
            go_quiet (fail)
            go_wp2_with fail
            go_ret
            exact ⟨ret_b HZ.out.symm, FRow.bdrew R.out.2 nq⟩
          · simp only [Bool.not_true] at k3
            by_cases h0 : j = 0
            · have h00 : decide ((0 : Int) < (j : Int)) = false := decide_eq_false (by omega)
              have h01 : decide (0 < j) = false := decide_eq_false (by omega)
              have HZ := hid_of (HN.out (by rw [HO.out, h0]; rfl))
              clear HX HN HO HP p0 p1 h0
              go_wp2_with fail
              go_quiet (fail)
              obtain ⟨ra', rc', w', hrun, RS⟩ := HAP.out (wr.drewN nq) (bel_drewN wr nq)
              clear HAP
              go_wp2_with (at_builtin; refine wpl_eq rfl _ _ 22 22 rfl (.slice ra j rc) (.slice (some ⟨wr.heap.size, 0, none⟩) 1 1) (.slice ra' (j + 1) rc') _ w' rfl rfl hrun ?_)
              go_roundg g'
              case measure => omega
              case rel => exact ⟨j + 1, ra', rc', by omega, by omega, rfl, by simp, HZ, RS⟩
            · have h00 : decide ((0 : Int) < (j : Int)) = true := decide_eq_true (by omega)
              have h01 : decide (0 < j) = true := decide_eq_true (by omega)
              have wz : IntKind.i64.wrap ((j : Int) - 1) = ((j - 1 : Nat) : Int) := by rw [show ((j - 1 : Nat) : Int) = (j : Int) - 1 by omega]; exact IntWalk.i64_in _ (by omega)
              have hj0 : (j == 0) = false := by simpa using h0
              have ix : j - 1 < L := by omega
              have HO2 := hid_of (HO.out.trans (by rw [hj0]; rfl : _ = b4))
              clear HO hj0 h0
              go_wp2_with fail
              go_region_held3 (fun W => W.cell? ⟨ga, oa + j * 2, none⟩ = some (.string X1) ∧ W.cell? ⟨ga, oa + j * 2 + 1, none⟩ = some (.int .i64 x2) ∧ W.cell? ⟨ga, oa + (j - 1) * 2, none⟩ = some (.string Z1) ∧ W.cell? ⟨ga, oa + (j - 1) * 2 + 1, none⟩ = some (.int .i64 z2)) (first | exact ⟨a0, a1, p0, p1⟩ | exact ⟨FRow.cell_on hw3 a0, FRow.cell_on hw3 a1, FRow.cell_on hw3 p0, FRow.cell_on hw3 p1⟩)
                (first | (go_at_call 177; refine (HP.out _).mono ?_; rintro e w3 ⟨rfl, hw3⟩))
              have HB3 := hid_of (show Below wr.heap.size wr w3 from ⟨hw3.os, hw3.tape, hw3.output, hw3.size, hw3.block⟩)
              clear hw3
              have y0 := FRow.cell_on HB3.out a0
              have y1 := FRow.cell_on HB3.out a1
              clear a0 a1 p0 p1 HP
              cases b4
              · have HZ := hid_of (HX.out HO2.out)
                clear HX HN HO2 HAP
                go_wp2_with fail
                go_ret
                exact ⟨ret_b HZ.out.symm, FRow.bel R.out.2 HB3.out (Nat.le_refl _)⟩
              · have HZ := hid_of (HN.out HO2.out)
                obtain ⟨ra', rc', w', hrun, RS⟩ := HAP.out w3 HB3.out
                clear HX HN HO2 HAP
                go_wp2_with (at_builtin; refine wpl_eq rfl _ _ 22 22 rfl (.slice ra j rc) (.slice (some ⟨w3.heap.size, 0, none⟩) 1 1) (.slice ra' (j + 1) rc') _ w' rfl rfl hrun ?_)
                go_roundg g'
                case measure => omega
                case rel => exact ⟨j + 1, ra', rc', by omega, by omega, rfl, by simp, HZ, RS⟩
    · obtain rfl : j = L := by omega
      have d1 : ¬ (j : Int) < (j : Int) := by omega
      have hfl : (enames l).length = j := by rw [HL.out]; exact List.length_map _
      have nl : NR w.heap.size wr (.slice ra j rc) (enames l) := by
        have := R.out.1
        rw [List.take_of_length_le (by have := HL.out; omega)] at this
        exact this
      have HOf := hid_of (ROf.rof_call nl.sl (by rw [hfl]; omega))
      have HT : Hid (rkd l = (((S (enames l)).length : Int) == (j : Int))) := hid_of (by
        unfold rkd
        rw [rAll_yes fun i hi => HA.out i (by have := HL.out; omega), Bool.true_and, ← HL.out]
        rw [Bool.eq_iff_iff]
        simp
        omega)
      clear nl hfl HA
      go_wp2_with fail
      refine HOf.out.mono ?_
      rintro e w2 ⟨r2, rfl, n2, b2⟩
      obtain ⟨ra2, rc2, rfl, _⟩ := n2.shape
      have B2 := hid_of (FRow.bel R.out.2 b2 (Nat.le_refl _))
      clear b2 n2
      generalize (S (enames l)).length = M at *
      cases he : ((M : Int) == (j : Int))
      · have HT2 := hid_of HT.out
        rw [he] at HT2
        clear HT
        go_wp2_with fail
        go_ret
        exact ⟨ret_b HT2.out.symm, B2.out⟩
      · have HT2 := hid_of HT.out
        rw [he] at HT2
        clear HT
        go_wp2_with fail
        go_ret
        exact ⟨ret_b HT2.out.symm, B2.out⟩
end Go.Proofs.YtiofnocmibjepaaGreatDoor.RRnk
end
section
namespace Go.Proofs.YtiofnocmibjepaaGreatDoor.RCheck0
open Go.RowKit Go.Maps
open Go.Proofs.YtiofnocmibjepaaGreatDoor.SetMath
open Go.Proofs.YtiofnocmibjepaaGreatDoor.ValueMath
open Go.Proofs.YtiofnocmibjepaaGreatDoor.Base
open Go.Proofs.YtiofnocmibjepaaGreatDoor.Vals
open Go.Proofs.YtiofnocmibjepaaGreatDoor.Check0
open Go.Proofs.YtiofnocmibjepaaGreatDoor.May
open Go.Proofs.YtiofnocmibjepaaGreatDoor.MayR
open Go.Proofs.YtiofnocmibjepaaGreatDoor.RChk
open Go.Proofs.YtiofnocmibjepaaGreatDoor.RRnk
set_option linter.unusedVariables false
set_option linter.unusedSimpArgs false
def rcB (k : Int) (bL bt bl bf br em va fo ro al : Bool) : Int := if (bL || (bt && k != 1) || (bl && k != 2 && k != 4) || (bf && k != 3) || (br && k != 5)) then 131 else if (em || (k == 4 && !va) || !fo || !ro || !al) then 131 else 0
theorem ret_i {a b : Int} (h : a = b) : Ending.returned (.int .i64 a) = .returned (.int .i64 b) := by rw [h]

end Go.Proofs.YtiofnocmibjepaaGreatDoor.RCheck0
end
