/- The program's reader: a value. -/
import Derived.Test.YtdcnkdkhanmklabElemSM
import Derived.Test.YtdcnkdkhanmklabCopy
namespace Go.Proofs.Ytdcnkdkhanmklab.RVal
open Go.RowKit Go.Maps
open Go.Proofs.Ytdcnkdkhanmklab.SetMath
open Go.Proofs.Ytdcnkdkhanmklab.BytesMath
open Go.Proofs.Ytdcnkdkhanmklab.ValueMath
open Go.Proofs.Ytdcnkdkhanmklab.ReadMath
open Go.Proofs.Ytdcnkdkhanmklab.Base
open Go.Proofs.Ytdcnkdkhanmklab.Vals
open Go.Proofs.Ytdcnkdkhanmklab.Rdr
open Go.Proofs.Ytdcnkdkhanmklab.Elem
open Go.Proofs.Ytdcnkdkhanmklab.Copy (nr_set row_set set5)
set_option linter.unusedVariables false
def fin6 (w : World) (p i q : Nat) (y y0 y1 y2 y3 y4 : Value) : World := ((((((w.setCell ⟨p, i, none⟩ y).setCell ⟨q, 0, none⟩ y0).setCell ⟨q, 1, none⟩ y1).setCell ⟨q, 2, none⟩ y2).setCell ⟨q, 3, none⟩ y3).setCell ⟨q, 4, none⟩ y4)
section
variable {w w0 : World} {p i q : Nat} {y y0 y1 y2 y3 y4 : Value}
theorem f6_nr {B : Nat} {v : Value} {l : List El} (h : NR B w v l) (hp : p < B) (hq : q < B) : NR q (fin6 w p i q y y0 y1 y2 y3 y4) v l := (nr_set (nr_set (nr_set (nr_set (nr_set (nr_set h hp y) hq y0) hq y1) hq y2) hq y3) hq y4).mono (by omega)
theorem f6_row {B e sz n : Nat} {v : Value} {xs : List Value} (h : w.ownsRow B e sz v n xs) (hp : p < B) (hq : q < B) : (fin6 w p i q y y0 y1 y2 y3 y4).ownsRow q e sz v n xs := FRow.row_mono (row_set (row_set (row_set (row_set (row_set (row_set h hp y) hq y0) hq y1) hq y2) hq y3) hq y4) (by omega)
theorem f6_at {k : Nat} {o : Option Obj} (h : w.heap[k]? = o) (hp : k ≠ p) (hq : k ≠ q) : (fin6 w p i q y y0 y1 y2 y3 y4).heap[k]? = o := (set_ne hq _).trans ((set_ne hq _).trans ((set_ne hq _).trans ((set_ne hq _).trans ((set_ne hq _).trans ((set_ne hp _).trans h)))))
theorem f6_fr {b : Nat} (h : Fr (At b) w0 w) (hp : w0.heap.size ≤ p) (hq : w0.heap.size ≤ q) : Fr (At b) w0 (fin6 w p i q y y0 y1 y2 y3 y4) := fr_set (fr_set (fr_set (fr_set (fr_set (fr_set h hp) hq) hq) hq) hq) hq
end
def ResV (b : Nat) (r : Bs) (w w' : World) (v : Value) : Prop := match valS r with
  | some (x, r') => RD b (r', false) w' ∧ VN w.heap.size w' v x
  | none => (∃ r', RD b (r', true) w') ∧ ∃ k t a n c a' n' c' a'' n'' c'', v = .agg #[.int .i64 k, .string t, .slice a n c, .slice a' n' c', .slice a'' n'' c'']
theorem resS_shape {b : Nat} {r : Bs} {w w' : World} {v : Value} (h : ElemS.ResS b r w w' v) : ∃ a n c, v = .slice a n c := by
  unfold ElemS.ResS at h
  split at h
  · obtain ⟨a, c, e, _⟩ := h.2.shape; exact ⟨_, _, _, e⟩
  · exact h.2
theorem resF_shape {b : Nat} {r : Bs} {w w' : World} {v : Value} (h : ElemF.ResF b r w w' v) : ∃ a n c, v = .slice a n c := by
  unfold ElemF.ResF at h
  split at h
  · obtain ⟨a, c, e⟩ := shapeFRow h.2; exact ⟨_, _, _, e⟩
  · exact h.2
theorem resE_shape {b : Nat} {r : Bs} {w w' : World} {v : Value} (h : ElemE.ResE b r w w' v) : ∃ a n c, v = .slice a n c := by
  unfold ElemE.ResE at h
  split at h
  · obtain ⟨a, c, e⟩ := shapeERow h.2; exact ⟨_, _, _, e⟩
  · exact h.2
abbrev zO : Obj := .cells #[.int .i64 0, .string ⟨#[]⟩, .slice none 0 0, .slice none 0 0, .slice none 0 0] 26
abbrev kO (k : Int) : Obj := .cells #[.int .i64 k, .string ⟨#[]⟩, .slice none 0 0, .slice none 0 0, .slice none 0 0] 26

set_option maxHeartbeats 2000000 in
set_option maxRecDepth 100000 in
theorem val1 (b : Nat) (r r1 : Bs) (w : World) (h : RD b (r, false) w) (hl : r.length ≤ 140737488355328) (hr : rdN 1 r = some (1, r1)) :
    Calls Try.prog 21 #[ptr b] w fun e w' => ∃ v, e = .returned v ∧ ResV b r w w' v ∧ Fr (At b) w w' := by
  have hbw := rdr_low h
  obtain ⟨V, hV⟩ : ∃ V, V = w.alloc zO := ⟨_, rfl⟩
  have bV : Below w.heap.size w V := by rw [hV]; exact FRow.bnew w _
  have v0 : V.heap[w.heap.size]? = some (.cells #[.int .i64 0, .string ⟨#[]⟩, .slice none 0 0, .slice none 0 0, .slice none 0 0] 26 (0, 0)) := by rw [hV]; exact heap_alloc_new w _
  have HN := hid_of (number_call b 1 (r, false) V (h.fr bV) hl)
  have HV := hid_of hV
  have HB := hid_of (fun W (hW : Fr (At b) V W) => And.intro (fr_go (Fr.of_below bV) hW) (fr_box v0 hW (by omega)))
  clear h v0 bV hV
  rw [nb_some (by decide) (by decide) hr] at HN
  have hl1 : r1.length ≤ 140737488355328 := by have h0 := (rdN_some hr).1; rw [h0] at hl; simp at hl; omega
  have HZ : Hid (valS r = bodyS 1 r1) := hid_of (by unfold valS; rw [hr]; rfl)
  clear hr
  go_enter Try.func21, Try.ntmps21
  go_wp2_with fail
  rw [← HV.out]
  refine HN.out.mono ?_
  rintro e w1 ⟨rfl, d1, f1⟩
  obtain ⟨f2, v1⟩ := HB.out w1 f1
  have hlt1 : w.heap.size < w1.heap.size := lt_of v1
  obtain ⟨W, hW⟩ : ∃ W, W = w1.alloc (kO 1) := ⟨_, rfl⟩
  have bW : Below w1.heap.size w1 W := by rw [hW]; exact FRow.bnew w1 _
  have sW : W.heap.size = w1.heap.size + 1 := by rw [hW]; simp
  have w0 : W.heap[w1.heap.size]? = some (.cells #[.int .i64 1, .string ⟨#[]⟩, .slice none 0 0, .slice none 0 0, .slice none 0 0] 26 (0, 0)) := by rw [hW]; exact heap_alloc_new w1 _
  have HC := hid_of (text_call b (r1, false) W (RD.fr d1 bW) hl1)
  have v2 := (bW.block _ (lt_of v1)).trans v1
  have H2 := hid_of (And.intro (fr_b f2 bW) (And.intro v2 w0))
  have HW := hid_of hW
  have HSW := hid_of sW
  clear d1 f1 f2 v1 bW w0 hW HN HB v2 sW
  go_wp2_with fail
  rw [← HW.out]
  refine HC.out.mono ?_
  rintro e w3 ⟨rfl, d3, f3⟩
  have D3 := hid_of d3
  clear d3
  obtain ⟨T, hT⟩ : ∃ T, T = mk (txS (r1, false)).1 := ⟨_, rfl⟩
  rw [← hT]
  have HT := hid_of hT
  clear hT
  have x1 := fr_box H2.out.2.1 f3 (by omega)
  have x2 := fr_box H2.out.2.2 f3 (by omega)
  have F3 := hid_of (fr_go H2.out.1 f3)
  obtain ⟨⟨p0, p1, p2, p3, p4⟩, pz⟩ := box5 x1
  obtain ⟨⟨q0, q1, q2, q3, q4⟩, qz⟩ := box5 x2
  have pz0 := pz 0
  have pz1 := pz 1
  have pz2 := pz 2
  have pz3 := pz 3
  have pz4 := pz 4
  have qzz := qz 1
  have X1 := hid_of x1
  clear x1 x2 pz qz f3 HC
  go_wp2_with fail
  obtain ⟨⟨g0, g1, g2, g3, g4⟩, _⟩ := box5 (set5 ((set_ne (b := w1.heap.size) (i := 1) (by omega) (.string T)).trans X1.out) (.int .i64 1) (.string T) (.slice none 0 0) (.slice none 0 0) (.slice none 0 0))
  refine ⟨rfl, .agg #[(.int .i64 1), (.string T), (.slice none 0 0), (.slice none 0 0), (.slice none 0 0)], ?_, _, rfl, ?_, f6_fr (p := w1.heap.size) (i := 1) (y := (.string T)) F3.out (by omega) (Nat.le_refl _)⟩
  · simp [results, Try.results21, go_sem, g0, g1, g2, g3, g4]
  · show ResV b r w (fin6 w3 w1.heap.size 1 w.heap.size (.string T) (.int .i64 1) (.string T) (.slice none 0 0) (.slice none 0 0) (.slice none 0 0)) _
    have hbn : b ≠ w1.heap.size := by omega
    have hbq : b ≠ w.heap.size := by omega
    have hp : w1.heap.size < W.heap.size := by have := HSW.out; omega
    have hq : w.heap.size < W.heap.size := by omega
    unfold ResV
    rw [HZ.out]
    cases e : rdT r1 with
    | none =>
      obtain ⟨r', hx⟩ := tx_none e
      have d3 := D3.out
      rw [hx] at d3
      rw [show bodyS 1 r1 = none by show (rdT r1).bind _ = _; rw [e]; rfl]
      exact ⟨⟨r', f6_at d3 hbn hbq⟩, _, _, _, _, _, _, _, _, _, _, _, rfl⟩
    | some t =>
      obtain ⟨t, r'⟩ := t
      have hx := tx_some e
      have d3 := D3.out
      have hT := HT.out
      rw [hx] at d3 hT
      rw [show bodyS 1 r1 = some (⟨1, t, [], [], []⟩, r') by show (rdT r1).bind _ = _; rw [e]; rfl]
      exact ⟨f6_at d3 hbn hbq, _, _, _, by rw [hT], .inl ⟨rfl, rfl⟩, FRow.or_nil _ _, ERow.or_nil _ _⟩

set_option maxHeartbeats 2000000 in
set_option maxRecDepth 100000 in
theorem val2 (b : Nat) (r r1 : Bs) (w : World) (h : RD b (r, false) w) (hl : r.length ≤ 140737488355328) (hr : rdN 1 r = some (2, r1)) :
    Calls Try.prog 21 #[ptr b] w fun e w' => ∃ v, e = .returned v ∧ ResV b r w w' v ∧ Fr (At b) w w' := by
  have hbw := rdr_low h
  obtain ⟨V, hV⟩ : ∃ V, V = w.alloc zO := ⟨_, rfl⟩
  have bV : Below w.heap.size w V := by rw [hV]; exact FRow.bnew w _
  have v0 : V.heap[w.heap.size]? = some (.cells #[.int .i64 0, .string ⟨#[]⟩, .slice none 0 0, .slice none 0 0, .slice none 0 0] 26 (0, 0)) := by rw [hV]; exact heap_alloc_new w _
  have HN := hid_of (number_call b 1 (r, false) V (h.fr bV) hl)
  have HV := hid_of hV
  have HB := hid_of (fun W (hW : Fr (At b) V W) => And.intro (fr_go (Fr.of_below bV) hW) (fr_box v0 hW (by omega)))
  clear h v0 bV hV
  rw [nb_some (by decide) (by decide) hr] at HN
  have hl1 : r1.length ≤ 140737488355328 := by have h0 := (rdN_some hr).1; rw [h0] at hl; simp at hl; omega
  have HZ : Hid (valS r = bodyS 2 r1) := hid_of (by unfold valS; rw [hr]; rfl)
  clear hr
  go_enter Try.func21, Try.ntmps21
  go_wp2_with fail
  rw [← HV.out]
  refine HN.out.mono ?_
  rintro e w1 ⟨rfl, d1, f1⟩
  obtain ⟨f2, v1⟩ := HB.out w1 f1
  have hlt1 : w.heap.size < w1.heap.size := lt_of v1
  obtain ⟨W, hW⟩ : ∃ W, W = w1.alloc (kO 2) := ⟨_, rfl⟩
  have bW : Below w1.heap.size w1 W := by rw [hW]; exact FRow.bnew w1 _
  have sW : W.heap.size = w1.heap.size + 1 := by rw [hW]; simp
  have w0 : W.heap[w1.heap.size]? = some (.cells #[.int .i64 2, .string ⟨#[]⟩, .slice none 0 0, .slice none 0 0, .slice none 0 0] 26 (0, 0)) := by rw [hW]; exact heap_alloc_new w1 _
  have HC := hid_of (ElemS.elemS b r1 W (RD.fr d1 bW) hl1)
  have v2 := (bW.block _ (lt_of v1)).trans v1
  have H2 := hid_of (And.intro (fr_b f2 bW) (And.intro v2 w0))
  have HW := hid_of hW
  have HSW := hid_of sW
  clear d1 f1 f2 v1 bW w0 hW HN HB v2 sW
  go_wp2_with fail
  rw [← HW.out]
  refine HC.out.mono ?_
  rintro e w3 ⟨v3, rfl, d3, f3⟩
  have D3 := hid_of d3
  clear d3
  have x1 := fr_box H2.out.2.1 f3 (by omega)
  have x2 := fr_box H2.out.2.2 f3 (by omega)
  have F3 := hid_of (fr_go H2.out.1 f3)
  obtain ⟨va, vn, vc, rfl⟩ := resS_shape D3.out
  obtain ⟨⟨p0, p1, p2, p3, p4⟩, pz⟩ := box5 x1
  obtain ⟨⟨q0, q1, q2, q3, q4⟩, qz⟩ := box5 x2
  have pz0 := pz 0
  have pz1 := pz 1
  have pz2 := pz 2
  have pz3 := pz 3
  have pz4 := pz 4
  have qzz := qz 2
  have X1 := hid_of x1
  clear x1 x2 pz qz f3 HC
  go_wp2_with fail
  obtain ⟨⟨g0, g1, g2, g3, g4⟩, _⟩ := box5 (set5 ((set_ne (b := w1.heap.size) (i := 2) (by omega) (.slice va vn vc)).trans X1.out) (.int .i64 2) (.string ⟨#[]⟩) (.slice va vn vc) (.slice none 0 0) (.slice none 0 0))
  refine ⟨rfl, .agg #[(.int .i64 2), (.string ⟨#[]⟩), (.slice va vn vc), (.slice none 0 0), (.slice none 0 0)], ?_, _, rfl, ?_, f6_fr (p := w1.heap.size) (i := 2) (y := (.slice va vn vc)) F3.out (by omega) (Nat.le_refl _)⟩
  · simp [results, Try.results21, go_sem, g0, g1, g2, g3, g4]
  · show ResV b r w (fin6 w3 w1.heap.size 2 w.heap.size (.slice va vn vc) (.int .i64 2) (.string ⟨#[]⟩) (.slice va vn vc) (.slice none 0 0) (.slice none 0 0)) _
    have hbn : b ≠ w1.heap.size := by omega
    have hbq : b ≠ w.heap.size := by omega
    have hp : w1.heap.size < W.heap.size := by have := HSW.out; omega
    have hq : w.heap.size < W.heap.size := by omega
    unfold ResV
    rw [HZ.out]
    have d3 := D3.out
    unfold ElemS.ResS at d3
    cases e : rdC rdT r1 with
    | none =>
      rw [e] at d3
      obtain ⟨⟨r', d3⟩, _⟩ := d3
      rw [show bodyS 2 r1 = none by show (rdC rdT r1).bind _ = _; rw [e]; rfl]
      exact ⟨⟨r', f6_at d3 hbn hbq⟩, _, _, _, _, _, _, _, _, _, _, _, rfl⟩
    | some t =>
      obtain ⟨l, r'⟩ := t
      rw [e] at d3
      obtain ⟨d3, n3⟩ := d3
      rw [show bodyS 2 r1 = some (⟨2, [], l, [], []⟩, r') by show (rdC rdT r1).bind _ = _; rw [e]; rfl]
      exact ⟨f6_at d3 hbn hbq, _, _, _, rfl, f6_nr n3 hp hq, FRow.or_nil _ _, ERow.or_nil _ _⟩

set_option maxHeartbeats 2000000 in
set_option maxRecDepth 100000 in
theorem val4 (b : Nat) (r r1 : Bs) (w : World) (h : RD b (r, false) w) (hl : r.length ≤ 140737488355328) (hr : rdN 1 r = some (4, r1)) :
    Calls Try.prog 21 #[ptr b] w fun e w' => ∃ v, e = .returned v ∧ ResV b r w w' v ∧ Fr (At b) w w' := by
  have hbw := rdr_low h
  obtain ⟨V, hV⟩ : ∃ V, V = w.alloc zO := ⟨_, rfl⟩
  have bV : Below w.heap.size w V := by rw [hV]; exact FRow.bnew w _
  have v0 : V.heap[w.heap.size]? = some (.cells #[.int .i64 0, .string ⟨#[]⟩, .slice none 0 0, .slice none 0 0, .slice none 0 0] 26 (0, 0)) := by rw [hV]; exact heap_alloc_new w _
  have HN := hid_of (number_call b 1 (r, false) V (h.fr bV) hl)
  have HV := hid_of hV
  have HB := hid_of (fun W (hW : Fr (At b) V W) => And.intro (fr_go (Fr.of_below bV) hW) (fr_box v0 hW (by omega)))
  clear h v0 bV hV
  rw [nb_some (by decide) (by decide) hr] at HN
  have hl1 : r1.length ≤ 140737488355328 := by have h0 := (rdN_some hr).1; rw [h0] at hl; simp at hl; omega
  have HZ : Hid (valS r = bodyS 4 r1) := hid_of (by unfold valS; rw [hr]; rfl)
  clear hr
  go_enter Try.func21, Try.ntmps21
  go_wp2_with fail
  rw [← HV.out]
  refine HN.out.mono ?_
  rintro e w1 ⟨rfl, d1, f1⟩
  obtain ⟨f2, v1⟩ := HB.out w1 f1
  have hlt1 : w.heap.size < w1.heap.size := lt_of v1
  obtain ⟨W, hW⟩ : ∃ W, W = w1.alloc (kO 4) := ⟨_, rfl⟩
  have bW : Below w1.heap.size w1 W := by rw [hW]; exact FRow.bnew w1 _
  have sW : W.heap.size = w1.heap.size + 1 := by rw [hW]; simp
  have w0 : W.heap[w1.heap.size]? = some (.cells #[.int .i64 4, .string ⟨#[]⟩, .slice none 0 0, .slice none 0 0, .slice none 0 0] 26 (0, 0)) := by rw [hW]; exact heap_alloc_new w1 _
  have HC := hid_of (ElemS.elemS b r1 W (RD.fr d1 bW) hl1)
  have v2 := (bW.block _ (lt_of v1)).trans v1
  have H2 := hid_of (And.intro (fr_b f2 bW) (And.intro v2 w0))
  have HW := hid_of hW
  have HSW := hid_of sW
  clear d1 f1 f2 v1 bW w0 hW HN HB v2 sW
  go_wp2_with fail
  rw [← HW.out]
  refine HC.out.mono ?_
  rintro e w3 ⟨v3, rfl, d3, f3⟩
  have D3 := hid_of d3
  clear d3
  have x1 := fr_box H2.out.2.1 f3 (by omega)
  have x2 := fr_box H2.out.2.2 f3 (by omega)
  have F3 := hid_of (fr_go H2.out.1 f3)
  obtain ⟨va, vn, vc, rfl⟩ := resS_shape D3.out
  obtain ⟨⟨p0, p1, p2, p3, p4⟩, pz⟩ := box5 x1
  obtain ⟨⟨q0, q1, q2, q3, q4⟩, qz⟩ := box5 x2
  have pz0 := pz 0
  have pz1 := pz 1
  have pz2 := pz 2
  have pz3 := pz 3
  have pz4 := pz 4
  have qzz := qz 2
  have X1 := hid_of x1
  clear x1 x2 pz qz f3 HC
  go_wp2_with fail
  obtain ⟨⟨g0, g1, g2, g3, g4⟩, _⟩ := box5 (set5 ((set_ne (b := w1.heap.size) (i := 2) (by omega) (.slice va vn vc)).trans X1.out) (.int .i64 4) (.string ⟨#[]⟩) (.slice va vn vc) (.slice none 0 0) (.slice none 0 0))
  refine ⟨rfl, .agg #[(.int .i64 4), (.string ⟨#[]⟩), (.slice va vn vc), (.slice none 0 0), (.slice none 0 0)], ?_, _, rfl, ?_, f6_fr (p := w1.heap.size) (i := 2) (y := (.slice va vn vc)) F3.out (by omega) (Nat.le_refl _)⟩
  · simp [results, Try.results21, go_sem, g0, g1, g2, g3, g4]
  · show ResV b r w (fin6 w3 w1.heap.size 2 w.heap.size (.slice va vn vc) (.int .i64 4) (.string ⟨#[]⟩) (.slice va vn vc) (.slice none 0 0) (.slice none 0 0)) _
    have hbn : b ≠ w1.heap.size := by omega
    have hbq : b ≠ w.heap.size := by omega
    have hp : w1.heap.size < W.heap.size := by have := HSW.out; omega
    have hq : w.heap.size < W.heap.size := by omega
    unfold ResV
    rw [HZ.out]
    have d3 := D3.out
    unfold ElemS.ResS at d3
    cases e : rdC rdT r1 with
    | none =>
      rw [e] at d3
      obtain ⟨⟨r', d3⟩, _⟩ := d3
      rw [show bodyS 4 r1 = none by show (rdC rdT r1).bind _ = _; rw [e]; rfl]
      exact ⟨⟨r', f6_at d3 hbn hbq⟩, _, _, _, _, _, _, _, _, _, _, _, rfl⟩
    | some t =>
      obtain ⟨l, r'⟩ := t
      rw [e] at d3
      obtain ⟨d3, n3⟩ := d3
      rw [show bodyS 4 r1 = some (⟨4, [], l, [], []⟩, r') by show (rdC rdT r1).bind _ = _; rw [e]; rfl]
      exact ⟨f6_at d3 hbn hbq, _, _, _, rfl, f6_nr n3 hp hq, FRow.or_nil _ _, ERow.or_nil _ _⟩

set_option maxHeartbeats 2000000 in
set_option maxRecDepth 100000 in
theorem val3 (b : Nat) (r r1 : Bs) (w : World) (h : RD b (r, false) w) (hl : r.length ≤ 140737488355328) (hr : rdN 1 r = some (3, r1)) :
    Calls Try.prog 21 #[ptr b] w fun e w' => ∃ v, e = .returned v ∧ ResV b r w w' v ∧ Fr (At b) w w' := by
  have hbw := rdr_low h
  obtain ⟨V, hV⟩ : ∃ V, V = w.alloc zO := ⟨_, rfl⟩
  have bV : Below w.heap.size w V := by rw [hV]; exact FRow.bnew w _
  have v0 : V.heap[w.heap.size]? = some (.cells #[.int .i64 0, .string ⟨#[]⟩, .slice none 0 0, .slice none 0 0, .slice none 0 0] 26 (0, 0)) := by rw [hV]; exact heap_alloc_new w _
  have HN := hid_of (number_call b 1 (r, false) V (h.fr bV) hl)
  have HV := hid_of hV
  have HB := hid_of (fun W (hW : Fr (At b) V W) => And.intro (fr_go (Fr.of_below bV) hW) (fr_box v0 hW (by omega)))
  clear h v0 bV hV
  rw [nb_some (by decide) (by decide) hr] at HN
  have hl1 : r1.length ≤ 140737488355328 := by have h0 := (rdN_some hr).1; rw [h0] at hl; simp at hl; omega
  have HZ : Hid (valS r = bodyS 3 r1) := hid_of (by unfold valS; rw [hr]; rfl)
  clear hr
  go_enter Try.func21, Try.ntmps21
  go_wp2_with fail
  rw [← HV.out]
  refine HN.out.mono ?_
  rintro e w1 ⟨rfl, d1, f1⟩
  obtain ⟨f2, v1⟩ := HB.out w1 f1
  have hlt1 : w.heap.size < w1.heap.size := lt_of v1
  obtain ⟨W, hW⟩ : ∃ W, W = w1.alloc (kO 3) := ⟨_, rfl⟩
  have bW : Below w1.heap.size w1 W := by rw [hW]; exact FRow.bnew w1 _
  have sW : W.heap.size = w1.heap.size + 1 := by rw [hW]; simp
  have w0 : W.heap[w1.heap.size]? = some (.cells #[.int .i64 3, .string ⟨#[]⟩, .slice none 0 0, .slice none 0 0, .slice none 0 0] 26 (0, 0)) := by rw [hW]; exact heap_alloc_new w1 _
  have HC := hid_of (ElemF.elemF b r1 W (RD.fr d1 bW) hl1)
  have v2 := (bW.block _ (lt_of v1)).trans v1
  have H2 := hid_of (And.intro (fr_b f2 bW) (And.intro v2 w0))
  have HW := hid_of hW
  have HSW := hid_of sW
  clear d1 f1 f2 v1 bW w0 hW HN HB v2 sW
  go_wp2_with fail
  rw [← HW.out]
  refine HC.out.mono ?_
  rintro e w3 ⟨v3, rfl, d3, f3⟩
  have D3 := hid_of d3
  clear d3
  have x1 := fr_box H2.out.2.1 f3 (by omega)
  have x2 := fr_box H2.out.2.2 f3 (by omega)
  have F3 := hid_of (fr_go H2.out.1 f3)
  obtain ⟨va, vn, vc, rfl⟩ := resF_shape D3.out
  obtain ⟨⟨p0, p1, p2, p3, p4⟩, pz⟩ := box5 x1
  obtain ⟨⟨q0, q1, q2, q3, q4⟩, qz⟩ := box5 x2
  have pz0 := pz 0
  have pz1 := pz 1
  have pz2 := pz 2
  have pz3 := pz 3
  have pz4 := pz 4
  have qzz := qz 3
  have X1 := hid_of x1
  clear x1 x2 pz qz f3 HC
  go_wp2_with fail
  obtain ⟨⟨g0, g1, g2, g3, g4⟩, _⟩ := box5 (set5 ((set_ne (b := w1.heap.size) (i := 3) (by omega) (.slice va vn vc)).trans X1.out) (.int .i64 3) (.string ⟨#[]⟩) (.slice none 0 0) (.slice va vn vc) (.slice none 0 0))
  refine ⟨rfl, .agg #[(.int .i64 3), (.string ⟨#[]⟩), (.slice none 0 0), (.slice va vn vc), (.slice none 0 0)], ?_, _, rfl, ?_, f6_fr (p := w1.heap.size) (i := 3) (y := (.slice va vn vc)) F3.out (by omega) (Nat.le_refl _)⟩
  · simp [results, Try.results21, go_sem, g0, g1, g2, g3, g4]
  · show ResV b r w (fin6 w3 w1.heap.size 3 w.heap.size (.slice va vn vc) (.int .i64 3) (.string ⟨#[]⟩) (.slice none 0 0) (.slice va vn vc) (.slice none 0 0)) _
    have hbn : b ≠ w1.heap.size := by omega
    have hbq : b ≠ w.heap.size := by omega
    have hp : w1.heap.size < W.heap.size := by have := HSW.out; omega
    have hq : w.heap.size < W.heap.size := by omega
    unfold ResV
    rw [HZ.out]
    have d3 := D3.out
    unfold ElemF.ResF at d3
    cases e : rdC rdF r1 with
    | none =>
      rw [e] at d3
      obtain ⟨⟨r', d3⟩, _⟩ := d3
      rw [show bodyS 3 r1 = none by show (rdC rdF r1).bind _ = _; rw [e]; rfl]
      exact ⟨⟨r', f6_at d3 hbn hbq⟩, _, _, _, _, _, _, _, _, _, _, _, rfl⟩
    | some t =>
      obtain ⟨l, r'⟩ := t
      rw [e] at d3
      obtain ⟨d3, n3⟩ := d3
      rw [show bodyS 3 r1 = some (⟨3, [], [], l, []⟩, r') by show (rdC rdF r1).bind _ = _; rw [e]; rfl]
      exact ⟨f6_at d3 hbn hbq, _, _, _, rfl, .inl ⟨rfl, rfl⟩, f6_row n3 hp hq, ERow.or_nil _ _⟩

set_option maxHeartbeats 2000000 in
set_option maxRecDepth 100000 in
theorem val5 (b : Nat) (r r1 : Bs) (w : World) (h : RD b (r, false) w) (hl : r.length ≤ 140737488355328) (hr : rdN 1 r = some (5, r1)) :
    Calls Try.prog 21 #[ptr b] w fun e w' => ∃ v, e = .returned v ∧ ResV b r w w' v ∧ Fr (At b) w w' := by
  have hbw := rdr_low h
  obtain ⟨V, hV⟩ : ∃ V, V = w.alloc zO := ⟨_, rfl⟩
  have bV : Below w.heap.size w V := by rw [hV]; exact FRow.bnew w _
  have v0 : V.heap[w.heap.size]? = some (.cells #[.int .i64 0, .string ⟨#[]⟩, .slice none 0 0, .slice none 0 0, .slice none 0 0] 26 (0, 0)) := by rw [hV]; exact heap_alloc_new w _
  have HN := hid_of (number_call b 1 (r, false) V (h.fr bV) hl)
  have HV := hid_of hV
  have HB := hid_of (fun W (hW : Fr (At b) V W) => And.intro (fr_go (Fr.of_below bV) hW) (fr_box v0 hW (by omega)))
  clear h v0 bV hV
  rw [nb_some (by decide) (by decide) hr] at HN
  have hl1 : r1.length ≤ 140737488355328 := by have h0 := (rdN_some hr).1; rw [h0] at hl; simp at hl; omega
  have HZ : Hid (valS r = bodyS 5 r1) := hid_of (by unfold valS; rw [hr]; rfl)
  clear hr
  go_enter Try.func21, Try.ntmps21
  go_wp2_with fail
  rw [← HV.out]
  refine HN.out.mono ?_
  rintro e w1 ⟨rfl, d1, f1⟩
  obtain ⟨f2, v1⟩ := HB.out w1 f1
  have hlt1 : w.heap.size < w1.heap.size := lt_of v1
  obtain ⟨W, hW⟩ : ∃ W, W = w1.alloc (kO 5) := ⟨_, rfl⟩
  have bW : Below w1.heap.size w1 W := by rw [hW]; exact FRow.bnew w1 _
  have sW : W.heap.size = w1.heap.size + 1 := by rw [hW]; simp
  have w0 : W.heap[w1.heap.size]? = some (.cells #[.int .i64 5, .string ⟨#[]⟩, .slice none 0 0, .slice none 0 0, .slice none 0 0] 26 (0, 0)) := by rw [hW]; exact heap_alloc_new w1 _
  have HC := hid_of (ElemE.elemE b r1 W (RD.fr d1 bW) hl1)
  have v2 := (bW.block _ (lt_of v1)).trans v1
  have H2 := hid_of (And.intro (fr_b f2 bW) (And.intro v2 w0))
  have HW := hid_of hW
  have HSW := hid_of sW
  clear d1 f1 f2 v1 bW w0 hW HN HB v2 sW
  go_wp2_with fail
  rw [← HW.out]
  refine HC.out.mono ?_
  rintro e w3 ⟨v3, rfl, d3, f3⟩
  have D3 := hid_of d3
  clear d3
  have x1 := fr_box H2.out.2.1 f3 (by omega)
  have x2 := fr_box H2.out.2.2 f3 (by omega)
  have F3 := hid_of (fr_go H2.out.1 f3)
  obtain ⟨va, vn, vc, rfl⟩ := resE_shape D3.out
  obtain ⟨⟨p0, p1, p2, p3, p4⟩, pz⟩ := box5 x1
  obtain ⟨⟨q0, q1, q2, q3, q4⟩, qz⟩ := box5 x2
  have pz0 := pz 0
  have pz1 := pz 1
  have pz2 := pz 2
  have pz3 := pz 3
  have pz4 := pz 4
  have qzz := qz 4
  have X1 := hid_of x1
  clear x1 x2 pz qz f3 HC
  go_wp2_with fail
  obtain ⟨⟨g0, g1, g2, g3, g4⟩, _⟩ := box5 (set5 ((set_ne (b := w1.heap.size) (i := 4) (by omega) (.slice va vn vc)).trans X1.out) (.int .i64 5) (.string ⟨#[]⟩) (.slice none 0 0) (.slice none 0 0) (.slice va vn vc))
  refine ⟨rfl, .agg #[(.int .i64 5), (.string ⟨#[]⟩), (.slice none 0 0), (.slice none 0 0), (.slice va vn vc)], ?_, _, rfl, ?_, f6_fr (p := w1.heap.size) (i := 4) (y := (.slice va vn vc)) F3.out (by omega) (Nat.le_refl _)⟩
  · simp [results, Try.results21, go_sem, g0, g1, g2, g3, g4]
  · show ResV b r w (fin6 w3 w1.heap.size 4 w.heap.size (.slice va vn vc) (.int .i64 5) (.string ⟨#[]⟩) (.slice none 0 0) (.slice none 0 0) (.slice va vn vc)) _
    have hbn : b ≠ w1.heap.size := by omega
    have hbq : b ≠ w.heap.size := by omega
    have hp : w1.heap.size < W.heap.size := by have := HSW.out; omega
    have hq : w.heap.size < W.heap.size := by omega
    unfold ResV
    rw [HZ.out]
    have d3 := D3.out
    unfold ElemE.ResE at d3
    cases e : rdC rdE r1 with
    | none =>
      rw [e] at d3
      obtain ⟨⟨r', d3⟩, _⟩ := d3
      rw [show bodyS 5 r1 = none by show (rdC rdE r1).bind _ = _; rw [e]; rfl]
      exact ⟨⟨r', f6_at d3 hbn hbq⟩, _, _, _, _, _, _, _, _, _, _, _, rfl⟩
    | some t =>
      obtain ⟨l, r'⟩ := t
      rw [e] at d3
      obtain ⟨d3, n3⟩ := d3
      rw [show bodyS 5 r1 = some (⟨5, [], [], [], l⟩, r') by show (rdC rdE r1).bind _ = _; rw [e]; rfl]
      exact ⟨f6_at d3 hbn hbq, _, _, _, rfl, .inl ⟨rfl, rfl⟩, FRow.or_nil _ _, f6_row n3 hp hq⟩

end Go.Proofs.Ytdcnkdkhanmklab.RVal
