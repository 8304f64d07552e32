/- Decode: the program's. -/
import Derived.Test.YtdcnkdkhanmklabRVal0
import Derived.Test.YtdcnkdkhanmklabCheck
namespace Go.Proofs.Ytdcnkdkhanmklab.Dec
open Go.RowKit Go.Maps
open Go.Proofs.Ytdcnkdkhanmklab.SetMath
open Go.Proofs.Ytdcnkdkhanmklab.BytesMath
open Go.Proofs.Ytdcnkdkhanmklab.ValueMath
open Go.Proofs.Ytdcnkdkhanmklab.ReadMath
open Go.Proofs.Ytdcnkdkhanmklab.Base
open Go.Proofs.Ytdcnkdkhanmklab.Vals
open Go.Proofs.Ytdcnkdkhanmklab.Rdr
open Go.Proofs.Ytdcnkdkhanmklab.RVal
open Go.Proofs.Ytdcnkdkhanmklab.Check0
open Go.Proofs.Ytdcnkdkhanmklab.Copy (nr_set row_set set5)
set_option linter.unusedVariables false
set_option linter.unusedSimpArgs false

structure Txt (x : Vl) : Prop where
  t : x.text.length < 4294967296
  l : ∀ y ∈ x.list, y.length < 4294967296
  f : ∀ p ∈ x.fields, p.1.length < 4294967296 ∧ p.2.length < 4294967296
  r : ∀ p ∈ x.ranked, p.1.length < 4294967296
theorem val_txt {s r : Bs} {v : Vl} (h : valS s = some (v, r)) : Txt v := by
  unfold valS at h
  obtain ⟨⟨n, r1⟩, h1, h2⟩ := Option.bind_eq_some_iff.1 h
  unfold bodyS at h2
  simp only at h2
  split at h2
  · obtain ⟨⟨t, r2⟩, h3, h4⟩ := Option.bind_eq_some_iff.1 h2
    injection h4 with h4
    injection h4 with h5 h6
    subst h5
    exact ⟨(rdT_some h3).2, by simp, by simp, by simp⟩
  · split at h2
    · obtain ⟨⟨t, r2⟩, h3, h4⟩ := Option.bind_eq_some_iff.1 h2
      injection h4 with h4
      injection h4 with h5 h6
      subst h5
      obtain ⟨_, _, g⟩ := rdC_some (f := encT) (G := fun x => x.length < 4294967296) (fun s x r h => rdT_some h) h3
      exact ⟨by simp, g, by simp, by simp⟩
    · split at h2
      · obtain ⟨⟨t, r2⟩, h3, h4⟩ := Option.bind_eq_some_iff.1 h2
        injection h4 with h4
        injection h4 with h5 h6
        subst h5
        obtain ⟨_, _, g⟩ := rdC_some (f := encF) (G := fun x => x.1.length < 4294967296 ∧ x.2.length < 4294967296) (fun s x r h => rdF_some h) h3
        exact ⟨by simp, by simp, g, by simp⟩
      · split at h2
        · obtain ⟨⟨t, r2⟩, h3, h4⟩ := Option.bind_eq_some_iff.1 h2
          injection h4 with h4
          injection h4 with h5 h6
          subst h5
          obtain ⟨_, _, g⟩ := rdC_some (f := encE) (G := fun x => x.1.length < 4294967296) (fun s x r h => rdE_some h) h3
          exact ⟨by simp, by simp, by simp, g⟩
        · cases h2
theorem wel_of {x : Vl} (h : small x) (t : Txt x) : Wel x := by
  obtain ⟨h1, h2, h3⟩ := h
  obtain ⟨t1, t2, t3, t4⟩ := t
  refine { l := by omega, f := by unfold FRow.big; omega, r := by unfold ERow.big; omega, t := by omega, ls := fun y hy => by have := t2 y hy; omega, fs := ⟨fun p hp => by have := (t3 p hp).1; omega, fun p hp => by have := (t3 p hp).2; omega⟩, rs := fun p hp => by have := t4 p hp; omega, r24 := by omega }
theorem val_wel {s r : Bs} {v : Vl} (h : valS s = some (v, r)) : Wel v := wel_of (val_some h).2 (val_txt h)
def zV : Vl := ⟨0, [], [], [], []⟩
def decV (s : Bs) : Vl × Nat × Int := match decS s with
  | some (x, m) => (x, m, 0)
  | none => (zV, 0, 132)
theorem vn_shape {B : Nat} {w : World} {v : Value} {x : Vl} (h : VN B w v x) : ∃ k t a n c a' n' c' a'' n'' c'', v = .agg #[.int .i64 k, .string t, .slice a n c, .slice a' n' c', .slice a'' n'' c''] := by
  obtain ⟨a, b, c, rfl, h1, h2, h3⟩ := h
  obtain ⟨a1, c1, rfl, _⟩ := h1.shape
  obtain ⟨a2, c2, rfl⟩ := shapeFRow h2
  obtain ⟨a3, c3, rfl⟩ := shapeERow h3
  exact ⟨_, _, _, _, _, _, _, _, _, _, _, rfl⟩
theorem vz (B : Nat) (w : World) : VN B w (.agg #[.int .i64 0, .string ⟨#[]⟩, .slice none 0 0, .slice none 0 0, .slice none 0 0]) zV := ⟨_, _, _, rfl, .inl ⟨rfl, rfl⟩, FRow.or_nil _ _, ERow.or_nil _ _⟩
theorem vn_set {B : Nat} {w : World} {v : Value} {x : Vl} (h : VN B w v x) {b i : Nat} (hb : b < B) (y : Value) : VN B (w.setCell ⟨b, i, none⟩ y) v x := by
  obtain ⟨a, b, c, rfl, h1, h2, h3⟩ := h
  exact ⟨a, b, c, rfl, nr_set h1 hb y, row_set h2 hb y, row_set h3 hb y⟩
/- the box of the answer filled -/
def fin5 (w : World) (q : Nat) (y0 y1 y2 y3 y4 : Value) : World := (((((w.setCell ⟨q, 0, none⟩ y0).setCell ⟨q, 1, none⟩ y1).setCell ⟨q, 2, none⟩ y2).setCell ⟨q, 3, none⟩ y3).setCell ⟨q, 4, none⟩ y4)
theorem f5_vn {B q : Nat} {w : World} {v : Value} {x : Vl} {y0 y1 y2 y3 y4 : Value} (h : VN B w v x) (hq : q < B) : VN B (fin5 w q y0 y1 y2 y3 y4) v x := vn_set (vn_set (vn_set (vn_set (vn_set h hq y0) hq y1) hq y2) hq y3) hq y4
theorem f5_b {B q : Nat} {w0 w : World} {y0 y1 y2 y3 y4 : Value} (h : Below B w0 w) (hq : B ≤ q) : Below B w0 (fin5 w q y0 y1 y2 y3 y4) := bset (bset (bset (bset (bset h hq y0) hq y1) hq y2) hq y3) hq y4
theorem fr_below {b : Nat} {w w' : World} (h : Fr (At b) w w') {B : Nat} (hB : B ≤ w.heap.size) (hb : B ≤ b) : Below B w w' := h.below hB fun k e => by have : k = b := e; omega
abbrev RT (s : Bs) (w : World) (e : Ending) (w' : World) : Prop := ∃ v, e = .returned (.tuple #[v, .int .i64 ((decV s).2.1 : Nat), .int .i64 (decV s).2.2]) ∧ VN w.heap.size w' v (decV s).1 ∧ Below w.heap.size w w'
set_option maxHeartbeats 4000000 in
set_option maxRecDepth 100000 in
theorem decode_call (s : Bs) (w : World) (hl : s.length ≤ 140737488355328) : Calls Try.prog 11 #[.string (mk s)] w (RT s w) := by
  obtain ⟨V, hV⟩ : ∃ V, V = (w.alloc zO).alloc (.cells #[.string (mk s), .bool false] 61) := ⟨_, rfl⟩
  have bV : Below w.heap.size w V := by rw [hV]; exact FRow.bel (FRow.bnew w _) (FRow.bnew _ _) (Nat.le_refl _)
  have sV : V.heap.size = w.heap.size + 2 := by rw [hV]; simp
  have v0 : V.heap[w.heap.size]? = some (.cells #[.int .i64 0, .string ⟨#[]⟩, .slice none 0 0, .slice none 0 0, .slice none 0 0] 26 (0, 0)) := by rw [hV, heap_alloc_old _ _ _ (by simp)]; exact heap_alloc_new w _
  have v1 : RD (w.heap.size + 1) (s, false) V := by
    have := heap_alloc_new (w.alloc zO) (.cells #[.string (mk s), .bool false] 61)
    rw [hV]
    simpa [RD] using this
  have HC := hid_of (RVal0.value_call (w.heap.size + 1) s V v1 hl)
  have HV := hid_of hV
  have HX := hid_of (fun W (hW : Fr (At (w.heap.size + 1)) V W) => And.intro (bV.trans (fr_below hW (by omega) (by omega))) (fr_box v0 hW (by omega)))
  have hm := mk_size s
  have HS := hid_of sV
  clear v0 v1 bV sV hV
  cases hv : valS s with
  | none =>
    have HD : Hid (decV s = (zV, 0, 132)) := hid_of (by unfold decV decS; rw [hv]; rfl)
    clear hm
    generalize mk s = X at *
    go_enter Try.func11, Try.ntmps11
    go_wp2_with fail
    rw [← HV.out]
    refine HC.out.mono ?_
    rintro e w1 ⟨v, rfl, dV, f1⟩
    unfold ResV at dV
    rw [hv] at dV
    obtain ⟨⟨r', d1⟩, k, t, a, n, c, a', n', c', a'', n'', c'', rfl⟩ := dV
    obtain ⟨b1, x1⟩ := HX.out w1 f1
    have sz1 := f1.size
    have hs2 := HS.out
    obtain ⟨⟨p0, p1, p2, p3, p4⟩, pz⟩ := box5 x1
    have pz0 := pz 0
    have pz1 := pz 1
    have pz2 := pz 2
    have pz3 := pz 3
    have pz4 := pz 4
    obtain ⟨⟨q0, q1⟩, _⟩ := box2 d1
    have l1 : w.heap.size < w1.heap.size := by omega
    have l2 : w.heap.size + 1 < w1.heap.size := by omega
    have D := hid_of (And.intro b1 x1)
    clear d1 f1 b1 x1 pz HX HC sz1 hs2 hv
    go_wp2_with fail
    obtain ⟨b1, x1⟩ := D.out
    have y1 := set5 x1 (.int .i64 0) (.string ⟨#[]⟩) (.slice none 0 0) (.slice none 0 0) (.slice none 0 0)
    have y2 := (heap_alloc_old _ (.cells #[.int .i64 k, .string t, .slice a n c, .slice a' n' c', .slice a'' n'' c''] 26) _ (lt_of y1)).trans y1
    obtain ⟨⟨g0, g1, g2, g3, g4⟩, _⟩ := box5 y2
    refine ⟨rfl, .tuple #[.agg #[.int .i64 0, .string ⟨#[]⟩, .slice none 0 0, .slice none 0 0, .slice none 0 0], .int .i64 0, .int .i64 132], ?_, .agg #[.int .i64 0, .string ⟨#[]⟩, .slice none 0 0, .slice none 0 0, .slice none 0 0], ?_, ?_, ?_⟩
    rotate_left
    · rw [HD.out]; rfl
    · rw [HD.out]; exact vz _ _
    · have b5 := f5_b (y0 := .int .i64 0) (y1 := .string ⟨#[]⟩) (y2 := .slice none 0 0) (y3 := .slice none 0 0) (y4 := .slice none 0 0) b1 (Nat.le_refl w.heap.size)
      exact b5.alloc b5.size _
    · simp [results, Try.results11, go_sem, g0, g1, g2, g3, g4]
  | some q =>
    obtain ⟨x, r'⟩ := q
    have hw := val_wel hv
    obtain ⟨hes, hsm⟩ := val_some hv
    have hlen : r'.length ≤ s.length := by rw [hes, List.length_append]; omega
    have HD : Hid (decV s = if chk x = 0 then (x, s.length - r'.length, 0) else (zV, 0, 132)) := hid_of (by
      unfold decV decS
      rw [hv]
      simp only [Option.bind_some]
      by_cases h0 : chk x = 0
      · rw [if_pos h0, if_pos h0]
      · rw [if_neg h0, if_neg h0])
    have HL := hid_of (And.intro hm (mk_size r'))
    have hlen2 : (mk r').size ≤ (mk s).size := by rw [hm, mk_size]; exact hlen
    have hbd : (mk s).size ≤ 140737488355328 := by rw [hm]; exact hl
    clear hm hes hlen hl
    generalize mk s = X at *
    go_enter Try.func11, Try.ntmps11
    go_wp2_with fail
    rw [← HV.out]
    refine HC.out.mono ?_
    rintro e w1 ⟨v, rfl, dV, f1⟩
    unfold ResV at dV
    rw [hv] at dV
    obtain ⟨d1, n1⟩ := dV
    obtain ⟨b1, x1⟩ := HX.out w1 f1
    have sz1 := f1.size
    have hs2 := HS.out
    have l1 : w.heap.size < w1.heap.size := by omega
    have l2 : w.heap.size + 1 < w1.heap.size := by omega
    obtain ⟨k, t, a, n, c, a', n', c', a'', n'', c'', hvv⟩ := vn_shape n1
    subst hvv
    obtain ⟨W, hW⟩ : ∃ W, W = w1.alloc (.cells #[.int .i64 k, .string t, .slice a n c, .slice a' n' c', .slice a'' n'' c''] 26) := ⟨_, rfl⟩
    have bW : Below w1.heap.size w1 W := by rw [hW]; exact FRow.bnew w1 _
    have w0 : W.heap[w1.heap.size]? = some (.cells #[.int .i64 k, .string t, .slice a n c, .slice a' n' c', .slice a'' n'' c''] 26 (0, 0)) := by rw [hW]; exact heap_alloc_new w1 _
    have HK := hid_of (Check.check_call (n1.va.below bW) hw)
    have X2 : Hid (∀ U, Below W.heap.size W U → Below w.heap.size w U ∧ U.heap[w.heap.size]? = some (.cells #[.int .i64 0, .string ⟨#[]⟩, .slice none 0 0, .slice none 0 0, .slice none 0 0] 26 (0, 0)) ∧ RD (w.heap.size + 1) (r', false) U ∧ U.heap[w1.heap.size]? = some (.cells #[.int .i64 k, .string t, .slice a n c, .slice a' n' c', .slice a'' n'' c''] 26 (0, 0)) ∧ VN V.heap.size U (.agg #[.int .i64 k, .string t, .slice a n c, .slice a' n' c', .slice a'' n'' c'']) x) := hid_of fun U hU => by
      have b2 := FRow.bel bW hU (Nat.le_refl _)
      exact ⟨FRow.bel b1 b2 (Nat.le_refl _), (b2.block _ l1).trans x1, d1.fr b2, (hU.block _ (lt_of w0)).trans w0, n1.below b2⟩
    have HW := hid_of hW
    obtain ⟨⟨q0, q1⟩, _⟩ := box2 d1
    clear d1 f1 b1 x1 HX HC sz1 hs2 hv n1 bW w0 hW hw hsm
    go_wp2_with fail
    rw [← HW.out]
    refine HK.out.mono ?_
    rintro e w2 ⟨rfl, b2⟩
    obtain ⟨y1, y2, y3, y4, y5⟩ := X2.out w2 b2
    have sz2 := b2.size
    obtain ⟨⟨p0, p1, p2, p3, p4⟩, pz⟩ := box5 y2
    have pz0 := pz 0
    have pz1 := pz 1
    have pz2 := pz 2
    have pz3 := pz 3
    have pz4 := pz 4
    obtain ⟨⟨u0, u1⟩, _⟩ := box2 y3
    obtain ⟨⟨t0, t1, t2, t3, t4⟩, _⟩ := box5 y4
    have D := hid_of (And.intro y1 (And.intro y2 y5))
    clear y1 y2 y3 y4 y5 b2 sz2 pz HK X2 q0 q1
    by_cases h0 : chk x = 0
    · rw [if_pos h0] at HD
      rw [h0]
      clear h0
      generalize mk r' = Y at *
      go_wp2_with fail
      have HN : Hid ((X.size : Int) - (Y.size : Int) = ((s.length - r'.length : Nat) : Int)) := hid_of (by have h1 := HL.out.1; have h2 := HL.out.2; omega)
      go_region
      go_wp2_with fail
      obtain ⟨b2, x2, n2⟩ := D.out
      obtain ⟨⟨g0, g1, g2, g3, g4⟩, _⟩ := box5 (set5 x2 (.int .i64 k) (.string t) (.slice a n c) (.slice a' n' c') (.slice a'' n'' c''))
      refine ⟨rfl, .tuple #[.agg #[.int .i64 k, .string t, .slice a n c, .slice a' n' c', .slice a'' n'' c''], .int .i64 (↑X.size - ↑Y.size), .int .i64 0], ?_, .agg #[.int .i64 k, .string t, .slice a n c, .slice a' n' c', .slice a'' n'' c''], ?_, ?_, ?_⟩
      rotate_left
      · rw [HD.out, HN.out]
      · rw [HD.out]
        exact (f5_vn (q := w.heap.size) n2 (by have := HS.out; omega)).mono (by have := HS.out; omega)
      · exact (f5_b b2 (Nat.le_refl _)).drew
      · simp [results, Try.results11, go_sem, g0, g1, g2, g3, g4]
    · rw [if_neg h0] at HD
      have hb0 : (chk x != 0) = true := by simpa using h0
      clear h0
      generalize chk x = E at *
      go_wp2_with fail
      obtain ⟨b2, x2, n2⟩ := D.out
      obtain ⟨⟨g0, g1, g2, g3, g4⟩, _⟩ := box5 (set5 x2 (.int .i64 0) (.string ⟨#[]⟩) (.slice none 0 0) (.slice none 0 0) (.slice none 0 0))
      refine ⟨rfl, .tuple #[.agg #[.int .i64 0, .string ⟨#[]⟩, .slice none 0 0, .slice none 0 0, .slice none 0 0], .int .i64 0, .int .i64 132], ?_, .agg #[.int .i64 0, .string ⟨#[]⟩, .slice none 0 0, .slice none 0 0, .slice none 0 0], ?_, ?_, ?_⟩
      rotate_left
      · rw [HD.out]; rfl
      · rw [HD.out]; exact vz _ _
      · exact f5_b b2 (Nat.le_refl _)
      · simp [results, Try.results11, go_sem, g0, g1, g2, g3, g4]
end Go.Proofs.Ytdcnkdkhanmklab.Dec
