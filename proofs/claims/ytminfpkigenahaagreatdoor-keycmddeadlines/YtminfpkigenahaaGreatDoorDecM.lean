/- Decode: the program's. Put, Drop and SetDue of a space without a mark; Due, Counter. Drop and SetDue of a space without a mark; Due, Counter. -/
import Derived.Test.YtminfpkigenahaaGreatDoorSTouchM
import Derived.Test.YtminfpkigenahaaGreatDoorElemEM
import Derived.Test.YtminfpkigenahaaGreatDoorCheckM
section
namespace Go.Proofs.YtminfpkigenahaaGreatDoor.Dec
open Go.RowKit Go.Maps
open Go.Proofs.YtminfpkigenahaaGreatDoor.SetMath
open Go.Proofs.YtminfpkigenahaaGreatDoor.BytesMath
open Go.Proofs.YtminfpkigenahaaGreatDoor.ValueMath
open Go.Proofs.YtminfpkigenahaaGreatDoor.ReadMath
open Go.Proofs.YtminfpkigenahaaGreatDoor.Base
open Go.Proofs.YtminfpkigenahaaGreatDoor.Vals
open Go.Proofs.YtminfpkigenahaaGreatDoor.Rdr
open Go.Proofs.YtminfpkigenahaaGreatDoor.RVal
open Go.Proofs.YtminfpkigenahaaGreatDoor.Check0
open Go.Proofs.YtminfpkigenahaaGreatDoor.Copy (nr_set row_set set5)
set_option linter.unusedVariables false
set_option linter.unusedSimpArgs false

structure Txt (x : Vl) : Prop where
  t : x.text.length < 4294967296
  l : ∀ y ∈ x.list, y.length < 4294967296
  f : ∀ p ∈ x.fields, p.1.length < 4294967296 ∧ p.2.length < 4294967296
  r : ∀ p ∈ x.ranked, p.1.length < 4294967296
theorem val_txt {s r : Bs} {v : Vl} (h : valS s = some (v, r)) : Txt v := by
  unfold valS at h
  obtain ⟨⟨n, r1⟩, h1, h2⟩ := Option.bind_eq_some_iff.1 h
  unfold bodyS at h2
  simp only at h2
  split at h2
  · obtain ⟨⟨t, r2⟩, h3, h4⟩ := Option.bind_eq_some_iff.1 h2
    injection h4 with h4
    injection h4 with h5 h6
    subst h5
    exact ⟨(rdT_some h3).2, by simp, by simp, by simp⟩
  · split at h2
    · obtain ⟨⟨t, r2⟩, h3, h4⟩ := Option.bind_eq_some_iff.1 h2
      injection h4 with h4
      injection h4 with h5 h6
      subst h5
      obtain ⟨_, _, g⟩ := rdC_some (f := encT) (G := fun x => x.length < 4294967296) (fun s x r h => rdT_some h) h3
      exact ⟨by simp, g, by simp, by simp⟩
    · split at h2
      · obtain ⟨⟨t, r2⟩, h3, h4⟩ := Option.bind_eq_some_iff.1 h2
        injection h4 with h4
        injection h4 with h5 h6
        subst h5
        obtain ⟨_, _, g⟩ := rdC_some (f := encF) (G := fun x => x.1.length < 4294967296 ∧ x.2.length < 4294967296) (fun s x r h => rdF_some h) h3
        exact ⟨by simp, by simp, g, by simp⟩
      · split at h2
        · obtain ⟨⟨t, r2⟩, h3, h4⟩ := Option.bind_eq_some_iff.1 h2
          injection h4 with h4
          injection h4 with h5 h6
          subst h5
          obtain ⟨_, _, g⟩ := rdC_some (f := encE) (G := fun x => x.1.length < 4294967296) (fun s x r h => rdE_some h) h3
          exact ⟨by simp, by simp, by simp, g⟩
        · cases h2
theorem wel_of {x : Vl} (h : small x) (t : Txt x) : Wel x := by
  obtain ⟨h1, h2, h3⟩ := h
  obtain ⟨t1, t2, t3, t4⟩ := t
  refine { l := by omega, f := by unfold FRow.big; omega, r := by unfold ERow.big; omega, t := by omega, ls := fun y hy => by have := t2 y hy; omega, fs := ⟨fun p hp => by have := (t3 p hp).1; omega, fun p hp => by have := (t3 p hp).2; omega⟩, rs := fun p hp => by have := t4 p hp; omega, r24 := by omega }
theorem val_wel {s r : Bs} {v : Vl} (h : valS s = some (v, r)) : Wel v := wel_of (val_some h).2 (val_txt h)
def zV : Vl := ⟨0, [], [], [], []⟩
def decV (s : Bs) : Vl × Nat × Int := match decS s with
  | some (x, m) => (x, m, 0)
  | none => (zV, 0, 132)
theorem vn_shape {B : Nat} {w : World} {v : Value} {x : Vl} (h : VN B w v x) : ∃ k t a n c a' n' c' a'' n'' c'', v = .agg #[.int .i64 k, .string t, .slice a n c, .slice a' n' c', .slice a'' n'' c''] := by
  obtain ⟨a, b, c, rfl, h1, h2, h3⟩ := h
  obtain ⟨a1, c1, rfl, _⟩ := h1.shape
  obtain ⟨a2, c2, rfl⟩ := shapeFRow h2
  obtain ⟨a3, c3, rfl⟩ := shapeERow h3
  exact ⟨_, _, _, _, _, _, _, _, _, _, _, rfl⟩
theorem vz (B : Nat) (w : World) : VN B w (.agg #[.int .i64 0, .string ⟨#[]⟩, .slice none 0 0, .slice none 0 0, .slice none 0 0]) zV := ⟨_, _, _, rfl, .inl ⟨rfl, rfl⟩, FRow.or_nil _ _, ERow.or_nil _ _⟩
theorem vn_set {B : Nat} {w : World} {v : Value} {x : Vl} (h : VN B w v x) {b i : Nat} (hb : b < B) (y : Value) : VN B (w.setCell ⟨b, i, none⟩ y) v x := by
  obtain ⟨a, b, c, rfl, h1, h2, h3⟩ := h
  exact ⟨a, b, c, rfl, nr_set h1 hb y, row_set h2 hb y, row_set h3 hb y⟩
/- the box of the answer filled -/
def fin5 (w : World) (q : Nat) (y0 y1 y2 y3 y4 : Value) : World := (((((w.setCell ⟨q, 0, none⟩ y0).setCell ⟨q, 1, none⟩ y1).setCell ⟨q, 2, none⟩ y2).setCell ⟨q, 3, none⟩ y3).setCell ⟨q, 4, none⟩ y4)
theorem f5_vn {B q : Nat} {w : World} {v : Value} {x : Vl} {y0 y1 y2 y3 y4 : Value} (h : VN B w v x) (hq : q < B) : VN B (fin5 w q y0 y1 y2 y3 y4) v x := vn_set (vn_set (vn_set (vn_set (vn_set h hq y0) hq y1) hq y2) hq y3) hq y4
theorem f5_b {B q : Nat} {w0 w : World} {y0 y1 y2 y3 y4 : Value} (h : Below B w0 w) (hq : B ≤ q) : Below B w0 (fin5 w q y0 y1 y2 y3 y4) := bset (bset (bset (bset (bset h hq y0) hq y1) hq y2) hq y3) hq y4
theorem fr_below {b : Nat} {w w' : World} (h : Fr (At b) w w') {B : Nat} (hB : B ≤ w.heap.size) (hb : B ≤ b) : Below B w w' := h.below hB fun k e => by have : k = b := e; omega
abbrev RT (s : Bs) (w : World) (e : Ending) (w' : World) : Prop := ∃ v, e = .returned (.tuple #[v, .int .i64 ((decV s).2.1 : Nat), .int .i64 (decV s).2.2]) ∧ VN w.heap.size w' v (decV s).1 ∧ Below w.heap.size w w'
set_option maxHeartbeats 4000000 in
set_option maxRecDepth 100000 in
theorem decode_call (s : Bs) (w : World) (hl : s.length ≤ 140737488355328) : Calls Tryz.prog 88 #[.string (mk s)] w (RT s w) := by
  obtain ⟨V, hV⟩ : ∃ V, V = (w.alloc zO).alloc (.cells #[.string (mk s), .bool false] 176) := ⟨_, rfl⟩
  have bV : Below w.heap.size w V := by rw [hV]; exact FRow.bel (FRow.bnew w _) (FRow.bnew _ _) (Nat.le_refl _)
  have sV : V.heap.size = w.heap.size + 2 := by rw [hV]; simp
  have v0 : V.heap[w.heap.size]? = some (.cells #[.int .i64 0, .string ⟨#[]⟩, .slice none 0 0, .slice none 0 0, .slice none 0 0] 30 (0, 0)) := by rw [hV, hao _ _ _ (by simp)]; exact heap_alloc_new w _
  have v1 : RD (w.heap.size + 1) (s, false) V := by
    have := heap_alloc_new (w.alloc zO) (.cells #[.string (mk s), .bool false] 176)
    rw [hV]
    simpa [RD] using this
  have HC := hid_of (RVal0.value_call (w.heap.size + 1) s V v1 hl)
  have HV := hid_of hV
  have HX := hid_of (fun W (hW : Fr (At (w.heap.size + 1)) V W) => And.intro (bV.trans (fr_below hW (by omega) (by omega))) (fr_box v0 hW (by omega)))
  have hm := mk_size s
  have HS := hid_of sV
  clear v0 v1 bV sV hV
  cases hv : valS s with
  | none =>
    have HD : Hid (decV s = (zV, 0, 132)) := hid_of (by unfold decV decS; rw [hv]; rfl)
    clear hm
    generalize mk s = X at *
    go_enter Tryz.func88, Tryz.ntmps88
    go_wp2_with fail
    rw [← HV.out]
    refine HC.out.mono ?_
    rintro e w1 ⟨v, rfl, dV, f1⟩
    unfold ResV at dV
    rw [hv] at dV
    obtain ⟨⟨r', d1⟩, k, t, a, n, c, a', n', c', a'', n'', c'', rfl⟩ := dV
    obtain ⟨b1, x1⟩ := HX.out w1 f1
    have sz1 := f1.size
    have hs2 := HS.out
    obtain ⟨⟨p0, p1, p2, p3, p4⟩, pz⟩ := box5 x1
    have pz0 := pz 0
    have pz1 := pz 1
    have pz2 := pz 2
    have pz3 := pz 3
    have pz4 := pz 4
    obtain ⟨⟨q0, q1⟩, _⟩ := box2 d1
    have l1 : w.heap.size < w1.heap.size := by omega
    have l2 : w.heap.size + 1 < w1.heap.size := by omega
    have D := hid_of (And.intro b1 x1)
    clear d1 f1 b1 x1 pz HX HC sz1 hs2 hv
    go_wp2_with fail
    obtain ⟨b1, x1⟩ := D.out
    have y1 := set5 x1 (.int .i64 0) (.string ⟨#[]⟩) (.slice none 0 0) (.slice none 0 0) (.slice none 0 0)
    have y2 := (hao _ (.cells #[.int .i64 k, .string t, .slice a n c, .slice a' n' c', .slice a'' n'' c''] 30) _ (lt_of y1)).trans y1
    obtain ⟨⟨g0, g1, g2, g3, g4⟩, _⟩ := box5 y2
    refine ⟨rfl, .tuple #[.agg #[.int .i64 0, .string ⟨#[]⟩, .slice none 0 0, .slice none 0 0, .slice none 0 0], .int .i64 0, .int .i64 132], ?_, .agg #[.int .i64 0, .string ⟨#[]⟩, .slice none 0 0, .slice none 0 0, .slice none 0 0], ?_, ?_, ?_⟩
    rotate_left
    · rw [HD.out]; rfl
    · rw [HD.out]; exact vz _ _
    · have b5 := f5_b (y0 := .int .i64 0) (y1 := .string ⟨#[]⟩) (y2 := .slice none 0 0) (y3 := .slice none 0 0) (y4 := .slice none 0 0) b1 (Nat.le_refl w.heap.size)
      exact b5.alloc b5.size _
    · simp [results, Tryz.results88, go_sem, g0, g1, g2, g3, g4]
  | some q =>
    obtain ⟨x, r'⟩ := q
    have hw := val_wel hv
    obtain ⟨hes, hsm⟩ := val_some hv
    have hlen : r'.length ≤ s.length := by rw [hes, List.length_append]; omega
    have HD : Hid (decV s = if chk x = 0 then (x, s.length - r'.length, 0) else (zV, 0, 132)) := hid_of (by
      unfold decV decS
      rw [hv]
      simp only [Option.bind_some]
      by_cases h0 : chk x = 0
      · rw [if_pos h0, if_pos h0]
      · rw [if_neg h0, if_neg h0])
    have HL := hid_of (And.intro hm (mk_size r'))
    have hlen2 : (mk r').size ≤ (mk s).size := by rw [hm, mk_size]; exact hlen
    have hbd : (mk s).size ≤ 140737488355328 := by rw [hm]; exact hl
    clear hm hes hlen hl
    generalize mk s = X at *
    go_enter Tryz.func88, Tryz.ntmps88
    go_wp2_with fail
    rw [← HV.out]
    refine HC.out.mono ?_
    rintro e w1 ⟨v, rfl, dV, f1⟩
    unfold ResV at dV
    rw [hv] at dV
    obtain ⟨d1, n1⟩ := dV
    obtain ⟨b1, x1⟩ := HX.out w1 f1
    have sz1 := f1.size
    have hs2 := HS.out
    have l1 : w.heap.size < w1.heap.size := by omega
    have l2 : w.heap.size + 1 < w1.heap.size := by omega
    obtain ⟨k, t, a, n, c, a', n', c', a'', n'', c'', hvv⟩ := vn_shape n1
    subst hvv
    obtain ⟨W, hW⟩ : ∃ W, W = w1.alloc (.cells #[.int .i64 k, .string t, .slice a n c, .slice a' n' c', .slice a'' n'' c''] 30) := ⟨_, rfl⟩
    have bW : Below w1.heap.size w1 W := by rw [hW]; exact FRow.bnew w1 _
    have w0 : W.heap[w1.heap.size]? = some (.cells #[.int .i64 k, .string t, .slice a n c, .slice a' n' c', .slice a'' n'' c''] 30 (0, 0)) := by rw [hW]; exact heap_alloc_new w1 _
    have HK := hid_of (Check.check_call (n1.va.below bW) hw)
    have X2 : Hid (∀ U, Below W.heap.size W U → Below w.heap.size w U ∧ U.heap[w.heap.size]? = some (.cells #[.int .i64 0, .string ⟨#[]⟩, .slice none 0 0, .slice none 0 0, .slice none 0 0] 30 (0, 0)) ∧ RD (w.heap.size + 1) (r', false) U ∧ U.heap[w1.heap.size]? = some (.cells #[.int .i64 k, .string t, .slice a n c, .slice a' n' c', .slice a'' n'' c''] 30 (0, 0)) ∧ VN V.heap.size U (.agg #[.int .i64 k, .string t, .slice a n c, .slice a' n' c', .slice a'' n'' c'']) x) := hid_of fun U hU => by
      have b2 := FRow.bel bW hU (Nat.le_refl _)
      exact ⟨FRow.bel b1 b2 (Nat.le_refl _), (b2.block _ l1).trans x1, d1.fr b2, (hU.block _ (lt_of w0)).trans w0, n1.below b2⟩
    have HW := hid_of hW
    obtain ⟨⟨q0, q1⟩, _⟩ := box2 d1
    clear d1 f1 b1 x1 HX HC sz1 hs2 hv n1 bW w0 hW hw hsm
    go_wp2_with fail
    rw [← HW.out]
    refine HK.out.mono ?_
    rintro e w2 ⟨rfl, b2⟩
    obtain ⟨y1, y2, y3, y4, y5⟩ := X2.out w2 b2
    have sz2 := b2.size
    obtain ⟨⟨p0, p1, p2, p3, p4⟩, pz⟩ := box5 y2
    have pz0 := pz 0
    have pz1 := pz 1
    have pz2 := pz 2
    have pz3 := pz 3
    have pz4 := pz 4
    obtain ⟨⟨u0, u1⟩, _⟩ := box2 y3
    obtain ⟨⟨t0, t1, t2, t3, t4⟩, _⟩ := box5 y4
    have D := hid_of (And.intro y1 (And.intro y2 y5))
    clear y1 y2 y3 y4 y5 b2 sz2 pz HK X2 q0 q1
    by_cases h0 : chk x = 0
    · rw [if_pos h0] at HD
      rw [h0]
      clear h0
      generalize mk r' = Y at *
      go_wp2_with fail
      have HN : Hid ((X.size : Int) - (Y.size : Int) = ((s.length - r'.length : Nat) : Int)) := hid_of (by have h1 := HL.out.1; have h2 := HL.out.2; omega)
      go_region
      go_wp2_with fail
      obtain ⟨b2, x2, n2⟩ := D.out
      obtain ⟨⟨g0, g1, g2, g3, g4⟩, _⟩ := box5 (set5 x2 (.int .i64 k) (.string t) (.slice a n c) (.slice a' n' c') (.slice a'' n'' c''))
      refine ⟨rfl, .tuple #[.agg #[.int .i64 k, .string t, .slice a n c, .slice a' n' c', .slice a'' n'' c''], .int .i64 (↑X.size - ↑Y.size), .int .i64 0], ?_, .agg #[.int .i64 k, .string t, .slice a n c, .slice a' n' c', .slice a'' n'' c''], ?_, ?_, ?_⟩
      rotate_left
      · rw [HD.out, HN.out]
      · rw [HD.out]
        exact (f5_vn (q := w.heap.size) n2 (by have := HS.out; omega)).mono (by have := HS.out; omega)
      · exact (f5_b b2 (Nat.le_refl _)).drew
      · simp [results, Tryz.results88, go_sem, g0, g1, g2, g3, g4]
    · rw [if_neg h0] at HD
      have hb0 : (chk x != 0) = true := by simpa using h0
      clear h0
      generalize chk x = E at *
      go_wp2_with fail
      obtain ⟨b2, x2, n2⟩ := D.out
      obtain ⟨⟨g0, g1, g2, g3, g4⟩, _⟩ := box5 (set5 x2 (.int .i64 0) (.string ⟨#[]⟩) (.slice none 0 0) (.slice none 0 0) (.slice none 0 0))
      refine ⟨rfl, .tuple #[.agg #[.int .i64 0, .string ⟨#[]⟩, .slice none 0 0, .slice none 0 0, .slice none 0 0], .int .i64 0, .int .i64 132], ?_, .agg #[.int .i64 0, .string ⟨#[]⟩, .slice none 0 0, .slice none 0 0, .slice none 0 0], ?_, ?_, ?_⟩
      rotate_left
      · rw [HD.out]; rfl
      · rw [HD.out]; exact vz _ _
      · exact f5_b b2 (Nat.le_refl _)
      · simp [results, Tryz.results88, go_sem, g0, g1, g2, g3, g4]
end Go.Proofs.YtminfpkigenahaaGreatDoor.Dec
end
section
namespace Go.Proofs.YtminfpkigenahaaGreatDoor.SPut
open Go.RowKit Go.Maps
open Go.Proofs.YtminfpkigenahaaGreatDoor.SpaceMath (wout withL lkp keys Ris toD)
open Go.Proofs.YtminfpkigenahaaGreatDoor.ValueMath (Vl chk small)
open Go.Proofs.YtminfpkigenahaaGreatDoor.Base (mk mk_list mk_size Gr hid_of)
open Go.Proofs.YtminfpkigenahaaGreatDoor.Turn
open Go.Proofs.YtminfpkigenahaaGreatDoor.RowB (Es)
open Go.Proofs.YtminfpkigenahaaGreatDoor.IndexS (IX)
open Go.Proofs.YtminfpkigenahaaGreatDoor.Vals
open Go.Proofs.YtminfpkigenahaaGreatDoor.Check0 (Wel)
open Go.Proofs.YtminfpkigenahaaGreatDoor.SBase
open Go.Proofs.YtminfpkigenahaaGreatDoor.SFind
open Go.Proofs.YtminfpkigenahaaGreatDoor.SMath
open Go.Proofs.YtminfpkigenahaaGreatDoor.SSet
open Go.Proofs.YtminfpkigenahaaGreatDoor.STouch
set_option linter.unusedVariables false
set_option linter.unusedSimpArgs false
theorem sp_cells {F X : Nat → Prop} {b : Nat} {w : World} {S : Sp} (h : SP F X b w S) : b < w.heap.size ∧ w.cell? ⟨b, 2, none⟩ = some (.int .u64 (S.cnt : Int)) ∧ F b := by
  obtain ⟨FI, bm, bi, mv, L, s, h⟩ := h
  exact ⟨lt_of h.blk, Lib.cell_of_heap h.blk 2, h.fb⟩
/-- a value's cells in a box of its own -/
abbrev vO (kd : Int) (T : ByteArray) (A B C : Value) : Obj := .cells #[.int .i64 kd, .string T, A, B, C] 30
theorem va_shape {w : World} {v : Value} {x : Vl} (h : VA w v x) : ∃ a1 c1 a2 c2 a3 c3, v = vV x (.slice a1 x.list.length c1) (.slice a2 x.fields.length c2) (.slice a3 x.ranked.length c3) := by
  obtain ⟨a, b, c, rfl, ⟨a1, c1, rfl, _⟩, ⟨a2, c2, rfl, _⟩, ⟨a3, c3, rfl, _⟩⟩ := h
  exact ⟨a1, c1, a2, c2, a3, c3, rfl⟩
set_option maxHeartbeats 2000000 in
set_option maxRecDepth 100000 in
theorem put_ok {F X : Nat → Prop} {b : Nat} {w : World} {S : Sp} (h : SP F X b w S) (hm : S.mrk = none) (hc : S.cnt + 1 < 18446744073709551616) (hS : S.l.length + 1 < 1099511627776) (k : Bs) (hk : k.length ≤ 281474976710656) {v : Value} {x : Vl} (hv : VA w v x) (hw : Wel x) (hs : small x) (ho : chk x = 0) (d : Int) (hd : 0 ≤ d ∧ d ≤ 9007199254740992) :
    Calls Tryz.prog 5 #[ptr b, .string (mk k), v, .int .i64 d] w fun r w' => r = .returned (.int .i64 0) ∧ Dn F X b w w' ⟨withL S.l k ⟨x, d, S.cnt + 1⟩, S.cnt + 1, none⟩ := by
  have HH := hid_of h
  obtain ⟨hbl, _, fb⟩ := sp_cells h
  obtain ⟨a1, c1, a2, c2, a3, c3, rfl⟩ := va_shape hv
  obtain ⟨W0, hW0⟩ : ∃ W0, W0 = w.alloc (vO x.kind (mk x.text) (.slice a1 x.list.length c1) (.slice a2 x.fields.length c2) (.slice a3 x.ranked.length c3)) := ⟨_, rfl⟩
  have B0 : Below w.heap.size w W0 := by rw [hW0]; exact alb _ _
  have x0 : W0.heap[w.heap.size]? = some (vO x.kind (mk x.text) (.slice a1 x.list.length c1) (.slice a2 x.fields.length c2) (.slice a3 x.ranked.length c3)) := by rw [hW0]; exact heap_alloc_new w _
  have z0 : W0.heap.size = w.heap.size + 1 := by rw [hW0]; simp
  have H1 := hid_of (Check.check_call (hv.below B0) hw)
  rw [ho] at H1
  have H2 := hid_of (deadline_call d)
  rw [decide_eq_true hd.1, decide_eq_true hd.2] at H2
  have HVA := hid_of hv
  have HX0 := hid_of x0
  have HB0 := hid_of B0
  have HW := hid_of hW0
  have HZ0 := hid_of z0
  have HOK := hid_of (And.intro hw.toFit (And.intro (Gd.mk ho hw hs) hd))
  clear hv h hW0 B0 x0 z0 hw hs ho hd
  unfold vV
  unfold vV at H1 HVA
  generalize hn1 : x.list.length = n1 at *
  generalize hn2 : x.fields.length = n2 at *
  generalize hn3 : x.ranked.length = n3 at *
  generalize hT : mk x.text = T at *
  generalize hkd : x.kind = kd at *
  have HN := hid_of (show x.list.length = n1 ∧ x.fields.length = n2 ∧ x.ranked.length = n3 ∧ mk x.text = T ∧ x.kind = kd from ⟨hn1, hn2, hn3, hT, hkd⟩)
  clear hn1 hn2 hn3 hT hkd
  go_enter Tryz.func5, Tryz.ntmps5
  go_wp2_with fail
  rw [← HW.out]
  refine H1.out.mono ?_
  rintro r w1 ⟨rfl, hb1⟩
  have HB1 := hid_of (show Below W0.heap.size W0 w1 from hb1)
  have x1 := (hb1.block _ (lt_of HX0.out)).trans HX0.out
  clear hb1 H1
  have HV1 := hid_of (Copy.copy_call (w := w1) (v := .agg #[.int .i64 kd, .string T, .slice a1 n1 c1, .slice a2 n2 c2, .slice a3 n3 c3]) (x := x) (HVA.out.below (HB0.out.trans (HB1.out.mono HB0.out.size))) HOK.out.1)
  obtain ⟨⟨y0, y1, y2, y3, y4⟩, fz⟩ := box5 x1
  have HX1 := hid_of x1
  clear x1
  go_wp2_with fail
  refine (H2.out w1).mono ?_
  rintro r w2 ⟨rfl, rfl⟩
  go_wp2_with fail
  refine HV1.out.mono ?_
  rintro r w3 ⟨u, rfl, hu, hb3⟩
  have x3 := (hb3.block _ (lt_of HX1.out)).trans HX1.out
  have hu0 := hu
  obtain ⟨e1, f1, e2, f2, e3, f3, hsh⟩ := va_shape hu.va
  unfold vV at hsh
  rw [HN.out.1, HN.out.2.1, HN.out.2.2.1, HN.out.2.2.2.1, HN.out.2.2.2.2] at hsh
  subst hsh
  obtain ⟨W4, hW4⟩ : ∃ W4, W4 = Dec.fin5 w3 w.heap.size (.int .i64 kd) (.string T) (.slice e1 n1 f1) (.slice e2 n2 f2) (.slice e3 n3 f3) := ⟨_, rfl⟩
  have l2 : w.heap.size < w2.heap.size := lt_of HX1.out
  have HU4 := hid_of (show VN w2.heap.size W4 (.agg #[.int .i64 kd, .string T, .slice e1 n1 f1, .slice e2 n2 f2, .slice e3 n3 f3]) x by rw [hW4]; exact Dec.f5_vn hu l2)
  have HB4 := hid_of (show Below w.heap.size w W4 by
    rw [hW4]
    have q := HB0.out.trans (HB1.out.mono HB0.out.size)
    exact Dec.f5_b (q.trans (hb3.mono q.size)) (Nat.le_refl _))
  have HX4 := hid_of (show W4.heap[w.heap.size]? = some (vO kd T (.slice e1 n1 f1) (.slice e2 n2 f2) (.slice e3 n3 f3)) by
    rw [hW4]
    unfold Dec.fin5
    simpa using set_at (i := 4) (set_at (i := 3) (set_at (i := 2) (set_at (i := 1) (set_at (i := 0) x3 (.int .i64 kd)) (.string T)) (.slice e1 n1 f1)) (.slice e2 n2 f2)) (.slice e3 n3 f3))
  have l4 : w2.heap.size ≤ W4.heap.size := by
    rw [hW4]
    unfold Dec.fin5
    rw [size_set, size_set, size_set, size_set, size_set]
    exact hb3.size
  unfold Dec.fin5 at hW4
  have HW4 := hid_of hW4
  clear y0 y1 y2 y3 y4 fz HV1 hW4 hu hu0
  obtain ⟨⟨y0, y1, y2, y3, y4⟩, fz⟩ := box5 x3
  have z0 := fz 0
  have z1 := fz 1
  have z2 := fz 2
  have z3 := fz 3
  have z4 := fz 4
  clear x3 fz hb3
  have H4 := hid_of (touch_none (HH.out.below HB4.out) hm hc (mk k))
  go_wp2_with fail
  rw [← HW4.out]
  refine H4.out.mono ?_
  rintro r w5 ⟨rfl, F5, s5, ev5, n5⟩
  have sm : w.heap.size < W4.heap.size := lt_of HX4.out
  have nF : ¬ F w.heap.size := fun q => Nat.lt_irrefl _ (HH.out.lo _ q)
  have nF5 : ¬ F5 w.heap.size := fun q => by
    rcases n5 _ q with q | q
    · exact nF q
    · omega
  have x5 := (ev5.block _ sm nF).trans HX4.out
  have HEv := hid_of ev5
  have HN5 := hid_of n5
  have HS5 := hid_of s5
  have en : EnAt (fun k => X k ∨ F5 k) w5 k (.agg #[.string (mk k), .int .i64 kd, .string T, .slice e1 n1 f1, .slice e2 n2 f2, .slice e3 n3 f3, .int .i64 d, .int .u64 ((S.cnt + 1 : Nat) : Int)]) ⟨x, d, S.cnt + 1⟩ := by
    refine ⟨⟨.slice e1 n1 f1, .slice e2 n2 f2, .slice e3 n3 f3, ?_, ?_⟩, HOK.out.2.1, HOK.out.2.2, by show 0 < S.cnt + 1; omega, hc⟩
    · unfold eV
      dsimp only
      rw [HN.out.2.2.2.1, HN.out.2.2.2.2]
    · unfold vV
      dsimp only
      rw [HN.out.2.2.2.1, HN.out.2.2.2.2]
      refine VS.re (X := X) (w := W4) (vs_new HU4.out fun k q => ?_) (ev5.mono fun k _ q => HH.out.fx k q) fun k hk q => ?_
      · have := HH.out.xl k q
        omega
      · rcases q with q | q
        · exact q
        · rcases n5 k q with q | q
          · exact HH.out.fx k q
          · omega
  have HC : Hid (∀ V, Below w5.heap.size w5 V → Calls Tryz.prog 15 #[ptr b, .string (mk k), .agg #[.string (mk k), .int .i64 kd, .string T, .slice e1 n1 f1, .slice e2 n2 f2, .slice e3 n3 f3, .int .i64 d, .int .u64 ((S.cnt : Int) + 1)]] V fun r w' => r = .returned (.tuple #[]) ∧ Dn F X b w w' ⟨withL S.l k ⟨x, d, S.cnt + 1⟩, S.cnt + 1, none⟩ ∧ w'.heap[w.heap.size]? = some (vO kd T (.slice e1 n1 f1) (.slice e2 n2 f2) (.slice e3 n3 f3)) ∧ w'.cell? ⟨b, 2, none⟩ = some (.int .u64 ((S.cnt : Int) + 1))) := hid_of fun V hV => by
    have hset := set_call (HS5.out.below hV) hS k hk (o := some ⟨x, d, S.cnt + 1⟩) (show HeldAt _ _ _ _ (some _) from en.re (Ev.of_below hV) (fun k _ q => q))
    refine hset.mono ?_
    rintro r w' ⟨rfl, F6, s6, ev6, n6⟩
    have eV5 : Ev F5 w5 w' := (Ev.of_below hV).trans ev6
    have d5 : Dn F5 (fun k => X k ∨ F5 k) b w5 w' ⟨withL S.l k ⟨x, d, S.cnt + 1⟩, S.cnt + 1, none⟩ := ⟨F6, s6, eV5, fun k q => (n6 k q).imp id fun q => Nat.le_trans hV.size q⟩
    refine ⟨rfl, ?_, ?_, (sp_cells s6).2.1⟩
    · refine Dn.trans (S1 := ⟨S.l, S.cnt + 1, none⟩) ((Ev.of_below (HB4.out)).trans HEv.out) (fun k q => ?_) d5
      rcases HN5.out k q with q | q
      · exact .inl q
      · exact .inr (Nat.le_trans HB4.out.size q)
    · exact ((eV5.block _ (Nat.lt_of_lt_of_le sm ev5.size) nF5).trans x5)
  have c2 : w5.cell? ⟨b, 2, none⟩ = some (.int .u64 ((S.cnt : Int) + 1)) := (sp_cells s5).2.1
  clear y0 y1 y2 y3 y4 z0 z1 z2 z3 z4 H4 ev5 n5 s5 en
  obtain ⟨⟨y0, y1, y2, y3, y4⟩, fz⟩ := box5 x5
  clear fz x5
  go_wp2_with fail
  go_region_held3 (fun V => V.cell? ⟨b, 2, none⟩ = some (.int .u64 ((S.cnt : Int) + 1)) ∧ V.cell? ⟨w.heap.size, 0, none⟩ = some (.int .i64 kd) ∧ V.cell? ⟨w.heap.size, 1, none⟩ = some (.string T) ∧ V.cell? ⟨w.heap.size, 2, none⟩ = some (.slice e1 n1 f1) ∧ V.cell? ⟨w.heap.size, 3, none⟩ = some (.slice e2 n2 f2) ∧ V.cell? ⟨w.heap.size, 4, none⟩ = some (.slice e3 n3 f3)) (first | exact ⟨c2, y0, y1, y2, y3, y4⟩ | exact ⟨c6, (box5 x6).1⟩) (first
    | (go_at_call 15; refine (HC.out _ (by first | exact Below.refl _ _ | exact (Below.refl _ _).drew)).mono ?_; rintro r w6 ⟨rfl, hdn, x6, c6⟩; have HF := hid_of hdn; clear hdn))
  clear c2 y0 y1 y2 y3 y4
  obtain ⟨⟨y0, y1, y2, y3, y4⟩, fz⟩ := box5 x6
  have H7 : Hid (Calls Tryz.prog 16 #[ptr b, .agg #[.int .i64 1, .string (mk k), .int .i64 kd, .string T, .slice e1 n1 f1, .slice e2 n2 f2, .slice e3 n3 f3, .int .i64 d]] w6 fun r w' => r = .returned (.tuple #[]) ∧ Below w6.heap.size w6 w') := hid_of (by
    obtain ⟨F6, s6, _, _⟩ := HF.out
    exact note_none s6 rfl _ _ _ _ _ _ _ _ _ _ _ _ _ _)
  go_wp2_with fail
  refine H7.out.mono ?_
  rintro r w7 ⟨rfl, hb7⟩
  have HB7 := hid_of hb7
  clear hb7
  go_wp2_with fail
  go_ret
  refine ⟨rfl, ?_⟩
  obtain ⟨F6, s6, ev6, n6⟩ := HF.out
  exact ⟨F6, s6.below HB7.out, ev6.trans (Ev.of_below HB7.out), n6⟩
end Go.Proofs.YtminfpkigenahaaGreatDoor.SPut
end
section
namespace Go.Proofs.YtminfpkigenahaaGreatDoor.SDrop
open Go.RowKit Go.Maps
open Go.Proofs.YtminfpkigenahaaGreatDoor.SpaceMath (wout withL lkp keys Ris toD)
open Go.Proofs.YtminfpkigenahaaGreatDoor.ValueMath (Vl chk small)
open Go.Proofs.YtminfpkigenahaaGreatDoor.Base (mk mk_list mk_size Gr hid_of)
open Go.Proofs.YtminfpkigenahaaGreatDoor.Turn
open Go.Proofs.YtminfpkigenahaaGreatDoor.RowB (Es)
open Go.Proofs.YtminfpkigenahaaGreatDoor.Vals
open Go.Proofs.YtminfpkigenahaaGreatDoor.Check0 (Wel)
open Go.Proofs.YtminfpkigenahaaGreatDoor.SBase
open Go.Proofs.YtminfpkigenahaaGreatDoor.SFind
open Go.Proofs.YtminfpkigenahaaGreatDoor.SMath
open Go.Proofs.YtminfpkigenahaaGreatDoor.SSet
open Go.Proofs.YtminfpkigenahaaGreatDoor.STouch
open Go.Proofs.YtminfpkigenahaaGreatDoor.SPut
set_option linter.unusedVariables false
set_option linter.unusedSimpArgs false
theorem dn_below {F X : Nat → Prop} {b : Nat} {w w1 w2 : World} {S : Sp} (h : Dn F X b w w1 S) (hb : Below w1.heap.size w1 w2) : Dn F X b w w2 S := by
  obtain ⟨F6, s6, ev6, n6⟩ := h
  exact ⟨F6, s6.below hb, ev6.trans (Ev.of_below hb), n6⟩
/-- first new memory, then a call -/
theorem dn_after {F X : Nat → Prop} {b : Nat} {w w1 w2 : World} {S : Sp} (hb : Below w.heap.size w w1) (h : Dn F X b w1 w2 S) : Dn F X b w w2 S := by
  obtain ⟨F6, s6, ev6, n6⟩ := h
  exact ⟨F6, s6, (Ev.of_below hb).trans ev6, fun k q => (n6 k q).imp id fun q => Nat.le_trans hb.size q⟩
/-- one call, then another -/
theorem dn_dn {F X : Nat → Prop} {b : Nat} {w w1 w2 : World} {S S' : Sp} (h : Dn F X b w w1 S) (h2 : ∀ F1, SP F1 (fun k => X k ∨ F1 k) b w1 S → Dn F1 (fun k => X k ∨ F1 k) b w1 w2 S') : Dn F X b w w2 S' := by
  obtain ⟨F1, s1, ev1, n1⟩ := h
  exact Dn.trans (S1 := S) ev1 n1 (h2 F1 s1)
set_option maxHeartbeats 1000000 in
set_option maxRecDepth 100000 in
theorem drop_yes {F X : Nat → Prop} {b : Nat} {w : World} {S : Sp} (h : SP F X b w S) (hm : S.mrk = none) (hc : S.cnt + 1 < 18446744073709551616) (k : Bs) (hk : k.length ≤ 281474976710656) {e : En} (he : lkp S.l k = some e) :
    Calls Tryz.prog 72 #[ptr b, .string (mk k)] w fun r w' => r = .returned (.bool true) ∧ Dn F X b w w' ⟨wout S.l k, S.cnt + 1, none⟩ := by
  have H1 := hid_of (find_call h k hk)
  rw [he] at H1
  have HH := hid_of h
  clear h
  go_enter Tryz.func72, Tryz.ntmps72
  go_wp2_with fail
  refine H1.out.mono ?_
  rintro r w1 ⟨v, rfl, hv, hb1⟩
  have hver := (show EnAt X w k v e from hv).ver.1
  obtain ⟨a1, c1, a2, c2, a3, c3, rfl, -⟩ := EnAt.shape hv
  unfold eV
  have H2 := hid_of (there_call (mk k) (mk e.val.text) e.val.kind e.due a1 a2 a3 e.val.list.length c1 e.val.fields.length c2 e.val.ranked.length c3 e.ver w1)
  rw [decide_eq_true hver] at H2
  have HB1 := hid_of hb1
  clear hb1 hv H1
  go_wp2_with fail
  refine H2.out.mono ?_
  rintro r w2 ⟨rfl, hb2⟩
  have HB2 := hid_of (HB1.out.trans (hb2.mono HB1.out.size))
  clear hb2 HB1 H2
  have H3 := hid_of (touch_none (HH.out.below HB2.out) hm hc (mk k))
  go_wp2_with fail
  refine H3.out.mono ?_
  rintro r w3 ⟨rfl, hd3⟩
  have D3 := hid_of (dn_after HB2.out hd3)
  clear hd3 H3
  have H4 : Hid (Calls Tryz.prog 15 #[ptr b, .string (mk k), zE] w3 fun r w' => r = .returned (.tuple #[]) ∧ Dn F X b w w' ⟨wout S.l k, S.cnt + 1, none⟩) := hid_of (by
    obtain ⟨F1, s1, ev1, n1⟩ := D3.out
    refine (set_none s1 k hk).mono ?_
    rintro r w' ⟨rfl, hd⟩
    exact ⟨rfl, Dn.trans (S1 := ⟨S.l, S.cnt + 1, none⟩) ev1 n1 hd⟩)
  unfold zE at H4
  go_wp2_with fail
  refine H4.out.mono ?_
  rintro r w4 ⟨rfl, hd4⟩
  have D4 := hid_of hd4
  clear hd4 H4 D3
  have H5 : Hid (Calls Tryz.prog 16 #[ptr b, .agg #[.int .i64 2, .string (mk k), .int .i64 0, .string ⟨#[]⟩, .slice none 0 0, .slice none 0 0, .slice none 0 0, .int .i64 0]] w4 fun r w' => r = .returned (.tuple #[]) ∧ Below w4.heap.size w4 w') := hid_of (by
    obtain ⟨F6, s6, _, _⟩ := D4.out
    exact note_none s6 rfl _ _ _ _ _ _ _ _ _ _ _ _ _ _)
  go_wp2_with fail
  refine H5.out.mono ?_
  rintro r w5 ⟨rfl, hb5⟩
  have HB5 := hid_of hb5
  clear hb5
  go_wp2_with fail
  go_ret
  exact ⟨rfl, dn_below D4.out HB5.out⟩
set_option maxHeartbeats 1000000 in
set_option maxRecDepth 100000 in
theorem drop_no {F X : Nat → Prop} {b : Nat} {w : World} {S : Sp} (h : SP F X b w S) (k : Bs) (hk : k.length ≤ 281474976710656) (he : lkp S.l k = none) :
    Calls Tryz.prog 72 #[ptr b, .string (mk k)] w fun r w' => r = .returned (.bool false) ∧ Below w.heap.size w w' := by
  have H1 := hid_of (find_call h k hk)
  rw [he] at H1
  clear h
  go_enter Tryz.func72, Tryz.ntmps72
  go_wp2_with fail
  refine H1.out.mono ?_
  rintro r w1 ⟨v, rfl, hv, hb1⟩
  have hv : v = zE := hv
  subst hv
  unfold zE
  have H2 := hid_of (there_call ⟨#[]⟩ ⟨#[]⟩ 0 0 none none none 0 0 0 0 0 0 0 w1)
  rw [decide_eq_false (Nat.lt_irrefl 0)] at H2
  have HB1 := hid_of hb1
  clear hb1 H1
  go_wp2_with fail
  refine H2.out.mono ?_
  rintro r w2 ⟨rfl, hb2⟩
  have HB2 := hid_of (HB1.out.trans (hb2.mono HB1.out.size))
  clear hb2 HB1 H2
  go_wp2_with fail
  go_ret
  exact ⟨rfl, HB2.out⟩
theorem en_cells {X : Nat → Prop} {w : World} {k : Bs} {v : Value} {e : En} (h : EnAt X w k v e) : ∃ T kd a1 n1 c1 a2 n2 c2 a3 n3 c3, v = .agg #[.string (mk k), .int .i64 kd, .string T, .slice a1 n1 c1, .slice a2 n2 c2, .slice a3 n3 c3, .int .i64 e.due, .int .u64 (e.ver : Int)] ∧ (∀ d' n' : Nat, True) := by
  obtain ⟨a1, c1, a2, c2, a3, c3, rfl, _⟩ := h.shape
  exact ⟨_, _, _, _, _, _, _, _, _, _, _, rfl, fun _ _ => trivial⟩
abbrev eO (K T : ByteArray) (kd : Int) (A B C : Value) (d : Int) (n : Int) : Obj := .cells #[.string K, .int .i64 kd, .string T, A, B, C, .int .i64 d, .int .u64 n] 51
set_option maxHeartbeats 1000000 in
set_option maxRecDepth 100000 in
theorem due_yes {F X : Nat → Prop} {b : Nat} {w : World} {S : Sp} (h : SP F X b w S) (k : Bs) (hk : k.length ≤ 281474976710656) (now : Int) {e : En} (he : lkp S.l k = some e) (hsn : seenB e.due e.ver now = true) :
    Calls Tryz.prog 83 #[ptr b, .string (mk k), .int .i64 now] w fun r w' => r = .returned (.tuple #[.int .i64 e.due, .bool true]) ∧ Below w.heap.size w w' := by
  have H1 := hid_of (find_call h k hk)
  rw [he] at H1
  clear h
  go_enter Tryz.func83, Tryz.ntmps83
  go_wp2_with fail
  refine H1.out.mono ?_
  rintro r w1 ⟨v, rfl, hv, hb1⟩
  obtain ⟨T, kd, a1, n1, c1, a2, n2, c2, a3, n3, c3, rfl, -⟩ := en_cells hv
  obtain ⟨W, hW⟩ : ∃ W, W = w1.alloc (eO (mk k) T kd (.slice a1 n1 c1) (.slice a2 n2 c2) (.slice a3 n3 c3) e.due (e.ver : Int)) := ⟨_, rfl⟩
  have x0 : W.heap[w1.heap.size]? = some (eO (mk k) T kd (.slice a1 n1 c1) (.slice a2 n2 c2) (.slice a3 n3 c3) e.due (e.ver : Int)) := by rw [hW]; exact heap_alloc_new w1 _
  have H2 := hid_of (seen_call (mk k) T kd e.due now a1 a2 a3 n1 c1 n2 c2 n3 c3 e.ver W)
  rw [hsn] at H2
  have HB1 := hid_of (show Below w.heap.size w W by rw [hW]; exact hb1.trans ((alb w1 _).mono hb1.size))
  have HX := hid_of x0
  have HW := hid_of hW
  clear hb1 hv H1 x0 hW
  go_wp2_with fail
  rw [← HW.out]
  refine H2.out.mono ?_
  rintro r w2 ⟨rfl, hb2⟩
  have HB2 := hid_of (HB1.out.trans (hb2.mono HB1.out.size))
  have c6 : w2.cell? ⟨w1.heap.size, 6, none⟩ = some (.int .i64 e.due) := Lib.cell_of_heap ((hb2.block _ (lt_of HX.out)).trans HX.out) 6
  clear hb2 H2
  go_wp2_with fail
  go_ret2
  exact ⟨rfl, HB2.out⟩
set_option maxHeartbeats 2000000 in
set_option maxRecDepth 100000 in
theorem setdue_yes {F X : Nat → Prop} {b : Nat} {w : World} {S : Sp} (h : SP F X b w S) (hm : S.mrk = none) (hc : S.cnt + 1 < 18446744073709551616) (hS : S.l.length + 1 < 1099511627776) (k : Bs) (hk : k.length ≤ 281474976710656) (d : Int) (hd : 0 ≤ d ∧ d ≤ 9007199254740992) {e : En} (he : lkp S.l k = some e) :
    Calls Tryz.prog 84 #[ptr b, .string (mk k), .int .i64 d] w fun r w' => r = .returned (.bool true) ∧ Dn F X b w w' ⟨withL S.l k ⟨e.val, d, S.cnt + 1⟩, S.cnt + 1, none⟩ := by
  have H1 := hid_of (find_call h k hk)
  rw [he] at H1
  have HH := hid_of h
  have H2 := hid_of (deadline_call d)
  rw [decide_eq_true hd.1, decide_eq_true hd.2] at H2
  have HD := hid_of hd
  clear h hd
  go_enter Tryz.func84, Tryz.ntmps84
  go_wp2_with fail
  refine H1.out.mono ?_
  rintro r w1 ⟨v, rfl, hv, hb1⟩
  have hv : EnAt X w k v e := hv
  have hver := hv.ver.1
  have HG := hid_of hv.gd
  obtain ⟨a1, c1, a2, c2, a3, c3, rfl, hvs⟩ := hv.shape
  have HVS := hid_of hvs
  unfold eV
  unfold vV at HVS
  obtain ⟨T, HT⟩ : ∃ T, Hid (mk e.val.text = T) := ⟨_, hid_of rfl⟩
  obtain ⟨kd, HK⟩ : ∃ kd, Hid (e.val.kind = kd) := ⟨_, hid_of rfl⟩
  rw [HT.out, HK.out] at HVS
  rw [HT.out, HK.out]
  clear hv hvs
  generalize e.val.list.length = n1 at *
  generalize e.val.fields.length = n2 at *
  generalize e.val.ranked.length = n3 at *
  obtain ⟨W, hW⟩ : ∃ W, W = w1.alloc (eO (mk k) T kd (.slice a1 n1 c1) (.slice a2 n2 c2) (.slice a3 n3 c3) e.due (e.ver : Int)) := ⟨_, rfl⟩
  have x0 : W.heap[w1.heap.size]? = some (eO (mk k) T kd (.slice a1 n1 c1) (.slice a2 n2 c2) (.slice a3 n3 c3) e.due (e.ver : Int)) := by rw [hW]; exact heap_alloc_new w1 _
  have H3 := hid_of (there_call (mk k) T kd e.due a1 a2 a3 n1 c1 n2 c2 n3 c3 e.ver W)
  rw [decide_eq_true hver] at H3
  have HB0 := hid_of hb1
  have HB1 := hid_of (show Below w.heap.size w W by rw [hW]; exact hb1.trans ((alb w1 _).mono hb1.size))
  have HX := hid_of x0
  have HW := hid_of hW
  clear hb1 H1 x0 hW
  go_wp2_with fail
  rw [← HW.out]
  refine H3.out.mono ?_
  rintro r w2 ⟨rfl, hb2⟩
  have HB2 := hid_of (HB1.out.trans (hb2.mono HB1.out.size))
  have HX2 := hid_of ((hb2.block _ (lt_of HX.out)).trans HX.out)
  clear hb2 H3
  go_wp2_with fail
  refine (H2.out w2).mono ?_
  rintro r w2 ⟨rfl, rfl⟩
  obtain ⟨B, hB⟩ : ∃ B, B = w1.heap.size := ⟨_, rfl⟩
  have HBB := hid_of hB
  have sm : w.heap.size ≤ B := by rw [hB]; exact HB0.out.size
  have HW2 : Hid (SP F (fun k => X k ∨ k = B) b w2 S) := hid_of (HH.out.re (fun k q => HB2.out.block k (HH.out.lo k q)) (Ev.of_below HB2.out) (fun k hl q => q.elim id (fun q => by omega)) (fun k q => .inl (HH.out.fx k q)) (fun k q => q.elim (fun q => Nat.lt_of_lt_of_le (HH.out.xl k q) HB2.out.size) (fun q => by rw [q, hB]; exact lt_of HX2.out)))
  have H4 := hid_of (touch_none HW2.out hm hc (mk k))
  go_wp2_with fail
  refine H4.out.mono ?_
  rintro r w4 ⟨rfl, F1, s1, ev1, n1'⟩
  have nF : ¬ F B := fun q => by have := HH.out.lo _ q; omega
  have nF1 : ¬ F1 B := fun q => by
    rcases n1' _ q with q | q
    · exact nF q
    · have := lt_of HX2.out
      omega
  have x4 : w4.heap[B]? = some (eO (mk k) T kd (.slice a1 n1 c1) (.slice a2 n2 c2) (.slice a3 n3 c3) e.due (e.ver : Int)) := by
    rw [hB]
    rw [hB] at nF
    exact (ev1.block _ (lt_of HX2.out) nF).trans HX2.out
  have c2' : w4.cell? ⟨b, 2, none⟩ = some (.int .u64 ((S.cnt : Int) + 1)) := (sp_cells s1).2.1
  have hbl : b < w4.heap.size := (sp_cells s1).1
  have nb : b ≠ B := fun q => by
    have := (sp_cells HH.out).1
    omega
  have HX4 := hid_of x4
  obtain ⟨⟨y0, y1, y2, y3, y4, y5, y6, y7⟩, fz⟩ := box8 x4
  have z6 := fz 6
  have z7 := fz 7
  obtain ⟨V, hV⟩ : ∃ V, V = ((w4.setCell ⟨B, 6, none⟩ (.int .i64 d)).setCell ⟨B, 7, none⟩ (.int .u64 ((S.cnt : Int) + 1))).drew := ⟨_, rfl⟩
  have xV : V.heap[B]? = some (eO (mk k) T kd (.slice a1 n1 c1) (.slice a2 n2 c2) (.slice a3 n3 c3) d ((S.cnt : Int) + 1)) := by
    rw [hV]
    show ((w4.setCell ⟨B, 6, none⟩ (.int .i64 d)).setCell ⟨B, 7, none⟩ (.int .u64 ((S.cnt : Int) + 1))).heap[B]? = _
    simpa using set_at (i := 7) (set_at (i := 6) HX4.out (.int .i64 d)) (.int .u64 ((S.cnt : Int) + 1))
  have evV : Ev (fun k => k = B) w4 V := by rw [hV]; exact ((setev w4 B 6 _).trans (setev _ B 7 _)).drew
  have sV : SP F1 (fun k => (X k ∨ k = B) ∨ F1 k) b V ⟨S.l, S.cnt + 1, none⟩ := s1.re (fun k q => evV.block k (s1.lo k q) (fun e => nF1 (by rw [← e]; exact q))) (evV.mono fun k _ q => .inl (.inr q)) (fun k _ q => q) s1.fx (fun k q => Nat.lt_of_lt_of_le (s1.xl k q) evV.size)
  have evF : Ev F w4 V → True := fun _ => trivial
  have ewV : Ev F w V := by
    refine ⟨?_, ?_, ?_, ?_, fun k hl hn => ?_⟩
    · exact evV.os.trans (ev1.os.trans HB2.out.os)
    · exact evV.tape.trans (ev1.tape.trans HB2.out.tape)
    · exact evV.output.trans (ev1.output.trans HB2.out.output)
    · exact Nat.le_trans HB2.out.size (Nat.le_trans ev1.size evV.size)
    · have l2 := Nat.lt_of_lt_of_le hl HB2.out.size
      exact (evV.block k (Nat.lt_of_lt_of_le l2 ev1.size) (fun e => by omega)).trans ((ev1.block k l2 hn).trans (HB2.out.block k hl))
  have H5 : Hid (Calls Tryz.prog 15 #[ptr b, .string (mk k), .agg #[.string (mk k), .int .i64 kd, .string T, .slice a1 n1 c1, .slice a2 n2 c2, .slice a3 n3 c3, .int .i64 d, .int .u64 ((S.cnt : Int) + 1)]] V fun r w' => r = .returned (.tuple #[]) ∧ Dn F X b w w' ⟨withL S.l k ⟨e.val, d, S.cnt + 1⟩, S.cnt + 1, none⟩) := hid_of (by
    have en : EnAt (fun k => (X k ∨ k = B) ∨ F1 k) V k (.agg #[.string (mk k), .int .i64 kd, .string T, .slice a1 n1 c1, .slice a2 n2 c2, .slice a3 n3 c3, .int .i64 d, .int .u64 ((S.cnt + 1 : Nat) : Int)]) ⟨e.val, d, S.cnt + 1⟩ := by
      refine ⟨⟨.slice a1 n1 c1, .slice a2 n2 c2, .slice a3 n3 c3, ?_, ?_⟩, HG.out, HD.out, by show 0 < S.cnt + 1; omega, hc⟩
      · unfold eV
        dsimp only
        rw [HT.out, HK.out]
      · unfold vV
        dsimp only
        rw [HT.out, HK.out]
        refine VS.re HVS.out (ewV.mono fun k _ q => HH.out.fx k q) fun k hl q => ?_
        rcases q with (q | q) | q
        · exact q
        · omega
        · rcases n1' k q with q | q
          · exact HH.out.fx k q
          · have := HB2.out.size
            omega
    refine (set_call sV hS k hk (o := some ⟨e.val, d, S.cnt + 1⟩) en).mono ?_
    rintro r w' ⟨rfl, F6, s6, ev6, n6⟩
    refine ⟨rfl, F6, s6.re (fun _ _ => rfl) (Ev.refl _ _) (fun k _ q => q.elim (fun q => .inl (.inl (.inl q))) .inr) (fun k q => .inr q) (fun k q => q.elim (fun q => s6.xl k (.inl (.inl (.inl q)))) (s6.lo k)), ?_, fun k q => ?_⟩
    · refine ⟨ev6.os.trans ewV.os, ev6.tape.trans ewV.tape, ev6.output.trans ewV.output, Nat.le_trans ewV.size ev6.size, fun k hl hn => (ev6.block k (Nat.lt_of_lt_of_le hl ewV.size) (fun q => ?_)).trans (ewV.block k hl hn)⟩
      rcases n1' k q with q | q
      · exact hn q
      · have := HB2.out.size
        omega
    · rcases n6 k q with q | q
      · rcases n1' k q with q | q
        · exact .inl q
        · exact .inr (Nat.le_trans HB2.out.size q)
      · exact .inr (Nat.le_trans ewV.size q))
  have HXV := hid_of xV
  have HV := hid_of hV
  rw [hB] at x4 y0 y1 y2 y3 y4 y5 y6 y7 z6 z7 nb HV HXV
  clear hV xV evV sV evF ewV x4 s1 ev1 n1' fz H4 HW2 hB nF nF1 HX4
  go_wp2_with fail
  go_region
  rw [← HV.out]
  clear y0 y1 y2 y3 y4 y5 y6 y7 z6 z7 c2'
  obtain ⟨⟨y0, y1, y2, y3, y4, y5, y6, y7⟩, fz⟩ := box8 HXV.out
  clear fz
  go_wp2_with fail
  refine H5.out.mono ?_
  rintro r w6 ⟨rfl, hd6⟩
  have D6 := hid_of hd6
  clear hd6 H5
  have H7 : Hid (Calls Tryz.prog 16 #[ptr b, .agg #[.int .i64 3, .string (mk k), .int .i64 0, .string ⟨#[]⟩, .slice none 0 0, .slice none 0 0, .slice none 0 0, .int .i64 d]] w6 fun r w' => r = .returned (.tuple #[]) ∧ Below w6.heap.size w6 w') := hid_of (by
    obtain ⟨F6, s6, _, _⟩ := D6.out
    exact note_none s6 rfl _ _ _ _ _ _ _ _ _ _ _ _ _ _)
  go_wp2_with fail
  refine H7.out.mono ?_
  rintro r w7 ⟨rfl, hb7⟩
  have HB7 := hid_of hb7
  clear hb7
  go_wp2_with fail
  go_ret
  exact ⟨rfl, dn_below D6.out HB7.out⟩
end Go.Proofs.YtminfpkigenahaaGreatDoor.SDrop
end
