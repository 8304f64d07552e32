/- Put, Drop and SetDue of a space without a mark; Due, Counter. Drop and SetDue of a space without a mark; Due, Counter. What a space tells of a key: Get and Due; replies. -/
import Derived.Test.YtcgdnpcegcmboaaGreatDoorSTouchM
import Derived.Test.YtcgdnpcegcmboaaGreatDoorCheckM
section
namespace Go.Proofs.YtcgdnpcegcmboaaGreatDoor.SPut
open Go.RowKit Go.Maps
open Go.Proofs.YtcgdnpcegcmboaaGreatDoor.SpaceMath (wout withL lkp keys Ris toD)
open Go.Proofs.YtcgdnpcegcmboaaGreatDoor.ValueMath (Vl chk small)
open Go.Proofs.YtcgdnpcegcmboaaGreatDoor.Base (mk mk_list mk_size Gr hid_of)
open Go.Proofs.YtcgdnpcegcmboaaGreatDoor.Turn
open Go.Proofs.YtcgdnpcegcmboaaGreatDoor.RowB (Es)
open Go.Proofs.YtcgdnpcegcmboaaGreatDoor.IndexS (IX)
open Go.Proofs.YtcgdnpcegcmboaaGreatDoor.Vals
open Go.Proofs.YtcgdnpcegcmboaaGreatDoor.Check0 (Wel)
open Go.Proofs.YtcgdnpcegcmboaaGreatDoor.SBase
open Go.Proofs.YtcgdnpcegcmboaaGreatDoor.SFind
open Go.Proofs.YtcgdnpcegcmboaaGreatDoor.SMath
open Go.Proofs.YtcgdnpcegcmboaaGreatDoor.SSet
open Go.Proofs.YtcgdnpcegcmboaaGreatDoor.STouch
set_option linter.unusedVariables false
set_option linter.unusedSimpArgs false
theorem sp_cells {F X : Nat → Prop} {b : Nat} {w : World} {S : Sp} (h : SP F X b w S) : b < w.heap.size ∧ w.cell? ⟨b, 2, none⟩ = some (.int .u64 (S.cnt : Int)) ∧ F b := by
  obtain ⟨FI, bm, bi, mv, L, s, h⟩ := h
  exact ⟨lt_of h.blk, Lib.cell_of_heap h.blk 2, h.fb⟩
/-- a value's cells in a box of its own -/
abbrev vO (kd : Int) (T : ByteArray) (A B C : Value) : Obj := .cells #[.int .i64 kd, .string T, A, B, C] 46
theorem va_shape {w : World} {v : Value} {x : Vl} (h : VA w v x) : ∃ a1 c1 a2 c2 a3 c3, v = vV x (.slice a1 x.list.length c1) (.slice a2 x.fields.length c2) (.slice a3 x.ranked.length c3) := by
  obtain ⟨a, b, c, rfl, ⟨a1, c1, rfl, _⟩, ⟨a2, c2, rfl, _⟩, ⟨a3, c3, rfl, _⟩⟩ := h
  exact ⟨a1, c1, a2, c2, a3, c3, rfl⟩
set_option maxHeartbeats 2000000 in
set_option maxRecDepth 100000 in
theorem put_ok {F X : Nat → Prop} {b : Nat} {w : World} {S : Sp} (h : SP F X b w S) (hm : S.mrk = none) (hc : S.cnt + 1 < 18446744073709551616) (hS : S.l.length + 1 < 1099511627776) (k : Bs) (hk : k.length ≤ 281474976710656) {v : Value} {x : Vl} (hv : VA w v x) (hw : Wel x) (hs : small x) (ho : chk x = 0) (d : Int) (hd : 0 ≤ d ∧ d ≤ 9007199254740992) :
    Calls Tryz.prog 19 #[ptr b, .string (mk k), v, .int .i64 d] w fun r w' => r = .returned (.int .i64 0) ∧ Dn F X b w w' ⟨withL S.l k ⟨x, d, S.cnt + 1⟩, S.cnt + 1, none⟩ := by
  have HH := hid_of h
  obtain ⟨hbl, _, fb⟩ := sp_cells h
  obtain ⟨a1, c1, a2, c2, a3, c3, rfl⟩ := va_shape hv
  obtain ⟨W0, hW0⟩ : ∃ W0, W0 = w.alloc (vO x.kind (mk x.text) (.slice a1 x.list.length c1) (.slice a2 x.fields.length c2) (.slice a3 x.ranked.length c3)) := ⟨_, rfl⟩
  have B0 : Below w.heap.size w W0 := by rw [hW0]; exact alb _ _
  have x0 : W0.heap[w.heap.size]? = some (vO x.kind (mk x.text) (.slice a1 x.list.length c1) (.slice a2 x.fields.length c2) (.slice a3 x.ranked.length c3)) := by rw [hW0]; exact heap_alloc_new w _
  have z0 : W0.heap.size = w.heap.size + 1 := by rw [hW0]; simp
  have H1 := hid_of (Check.check_call (hv.below B0) hw)
  rw [ho] at H1
  have H2 := hid_of (deadline_call d)
  rw [decide_eq_true hd.1, decide_eq_true hd.2] at H2
  have HVA := hid_of hv
  have HX0 := hid_of x0
  have HB0 := hid_of B0
  have HW := hid_of hW0
  have HZ0 := hid_of z0
  have HOK := hid_of (And.intro hw.toFit (And.intro (Gd.mk ho hw hs) hd))
  clear hv h hW0 B0 x0 z0 hw hs ho hd
  unfold vV
  unfold vV at H1 HVA
  generalize hn1 : x.list.length = n1 at *
  generalize hn2 : x.fields.length = n2 at *
  generalize hn3 : x.ranked.length = n3 at *
  generalize hT : mk x.text = T at *
  generalize hkd : x.kind = kd at *
  have HN := hid_of (show x.list.length = n1 ∧ x.fields.length = n2 ∧ x.ranked.length = n3 ∧ mk x.text = T ∧ x.kind = kd from ⟨hn1, hn2, hn3, hT, hkd⟩)
  clear hn1 hn2 hn3 hT hkd
  go_enter Tryz.func19, Tryz.ntmps19
  go_wp2_with fail
  rw [← HW.out]
  refine H1.out.mono ?_
  rintro r w1 ⟨rfl, hb1⟩
  have HB1 := hid_of (show Below W0.heap.size W0 w1 from hb1)
  have x1 := (hb1.block _ (lt_of HX0.out)).trans HX0.out
  clear hb1 H1
  have HV1 := hid_of (Copy.copy_call (w := w1) (v := .agg #[.int .i64 kd, .string T, .slice a1 n1 c1, .slice a2 n2 c2, .slice a3 n3 c3]) (x := x) (HVA.out.below (HB0.out.trans (HB1.out.mono HB0.out.size))) HOK.out.1)
  obtain ⟨⟨y0, y1, y2, y3, y4⟩, fz⟩ := box5 x1
  have HX1 := hid_of x1
  clear x1
  go_wp2_with fail
  refine (H2.out w1).mono ?_
  rintro r w2 ⟨rfl, rfl⟩
  go_wp2_with fail
  refine HV1.out.mono ?_
  rintro r w3 ⟨u, rfl, hu, hb3⟩
  have x3 := (hb3.block _ (lt_of HX1.out)).trans HX1.out
  have hu0 := hu
  obtain ⟨e1, f1, e2, f2, e3, f3, hsh⟩ := va_shape hu.va
  unfold vV at hsh
  rw [HN.out.1, HN.out.2.1, HN.out.2.2.1, HN.out.2.2.2.1, HN.out.2.2.2.2] at hsh
  subst hsh
  obtain ⟨W4, hW4⟩ : ∃ W4, W4 = Dec.fin5 w3 w.heap.size (.int .i64 kd) (.string T) (.slice e1 n1 f1) (.slice e2 n2 f2) (.slice e3 n3 f3) := ⟨_, rfl⟩
  have l2 : w.heap.size < w2.heap.size := lt_of HX1.out
  have HU4 := hid_of (show VN w2.heap.size W4 (.agg #[.int .i64 kd, .string T, .slice e1 n1 f1, .slice e2 n2 f2, .slice e3 n3 f3]) x by rw [hW4]; exact Dec.f5_vn hu l2)
  have HB4 := hid_of (show Below w.heap.size w W4 by
    rw [hW4]
    have q := HB0.out.trans (HB1.out.mono HB0.out.size)
    exact Dec.f5_b (q.trans (hb3.mono q.size)) (Nat.le_refl _))
  have HX4 := hid_of (show W4.heap[w.heap.size]? = some (vO kd T (.slice e1 n1 f1) (.slice e2 n2 f2) (.slice e3 n3 f3)) by
    rw [hW4]
    unfold Dec.fin5
    simpa using set_at (i := 4) (set_at (i := 3) (set_at (i := 2) (set_at (i := 1) (set_at (i := 0) x3 (.int .i64 kd)) (.string T)) (.slice e1 n1 f1)) (.slice e2 n2 f2)) (.slice e3 n3 f3))
  have l4 : w2.heap.size ≤ W4.heap.size := by
    rw [hW4]
    unfold Dec.fin5
    rw [size_set, size_set, size_set, size_set, size_set]
    exact hb3.size
  unfold Dec.fin5 at hW4
  have HW4 := hid_of hW4
  clear y0 y1 y2 y3 y4 fz HV1 hW4 hu hu0
  obtain ⟨⟨y0, y1, y2, y3, y4⟩, fz⟩ := box5 x3
  have z0 := fz 0
  have z1 := fz 1
  have z2 := fz 2
  have z3 := fz 3
  have z4 := fz 4
  clear x3 fz hb3
  have H4 := hid_of (touch_none (HH.out.below HB4.out) hm hc (mk k))
  go_wp2_with fail
  rw [← HW4.out]
  refine H4.out.mono ?_
  rintro r w5 ⟨rfl, F5, s5, ev5, n5⟩
  have sm : w.heap.size < W4.heap.size := lt_of HX4.out
  have nF : ¬ F w.heap.size := fun q => Nat.lt_irrefl _ (HH.out.lo _ q)
  have nF5 : ¬ F5 w.heap.size := fun q => by
    rcases n5 _ q with q | q
    · exact nF q
    · omega
  have x5 := (ev5.block _ sm nF).trans HX4.out
  have HEv := hid_of ev5
  have HN5 := hid_of n5
  have HS5 := hid_of s5
  have en : EnAt (fun k => X k ∨ F5 k) w5 k (.agg #[.string (mk k), .int .i64 kd, .string T, .slice e1 n1 f1, .slice e2 n2 f2, .slice e3 n3 f3, .int .i64 d, .int .u64 ((S.cnt + 1 : Nat) : Int)]) ⟨x, d, S.cnt + 1⟩ := by
    refine ⟨⟨.slice e1 n1 f1, .slice e2 n2 f2, .slice e3 n3 f3, ?_, ?_⟩, HOK.out.2.1, HOK.out.2.2, by show 0 < S.cnt + 1; omega, hc⟩
    · unfold eV
      dsimp only
      rw [HN.out.2.2.2.1, HN.out.2.2.2.2]
    · unfold vV
      dsimp only
      rw [HN.out.2.2.2.1, HN.out.2.2.2.2]
      refine VS.re (X := X) (w := W4) (vs_new HU4.out fun k q => ?_) (ev5.mono fun k _ q => HH.out.fx k q) fun k hk q => ?_
      · have := HH.out.xl k q
        omega
      · rcases q with q | q
        · exact q
        · rcases n5 k q with q | q
          · exact HH.out.fx k q
          · omega
  have HC : Hid (∀ V, Below w5.heap.size w5 V → Calls Tryz.prog 41 #[ptr b, .string (mk k), .agg #[.string (mk k), .int .i64 kd, .string T, .slice e1 n1 f1, .slice e2 n2 f2, .slice e3 n3 f3, .int .i64 d, .int .u64 ((S.cnt : Int) + 1)]] V fun r w' => r = .returned (.tuple #[]) ∧ Dn F X b w w' ⟨withL S.l k ⟨x, d, S.cnt + 1⟩, S.cnt + 1, none⟩ ∧ w'.heap[w.heap.size]? = some (vO kd T (.slice e1 n1 f1) (.slice e2 n2 f2) (.slice e3 n3 f3)) ∧ w'.cell? ⟨b, 2, none⟩ = some (.int .u64 ((S.cnt : Int) + 1))) := hid_of fun V hV => by
    have hset := set_call (HS5.out.below hV) hS k hk (o := some ⟨x, d, S.cnt + 1⟩) (show HeldAt _ _ _ _ (some _) from en.re (Ev.of_below hV) (fun k _ q => q))
    refine hset.mono ?_
    rintro r w' ⟨rfl, F6, s6, ev6, n6⟩
    have eV5 : Ev F5 w5 w' := (Ev.of_below hV).trans ev6
    have d5 : Dn F5 (fun k => X k ∨ F5 k) b w5 w' ⟨withL S.l k ⟨x, d, S.cnt + 1⟩, S.cnt + 1, none⟩ := ⟨F6, s6, eV5, fun k q => (n6 k q).imp id fun q => Nat.le_trans hV.size q⟩
    refine ⟨rfl, ?_, ?_, (sp_cells s6).2.1⟩
    · refine Dn.trans (S1 := ⟨S.l, S.cnt + 1, none⟩) ((Ev.of_below (HB4.out)).trans HEv.out) (fun k q => ?_) d5
      rcases HN5.out k q with q | q
      · exact .inl q
      · exact .inr (Nat.le_trans HB4.out.size q)
    · exact ((eV5.block _ (Nat.lt_of_lt_of_le sm ev5.size) nF5).trans x5)
  have c2 : w5.cell? ⟨b, 2, none⟩ = some (.int .u64 ((S.cnt : Int) + 1)) := (sp_cells s5).2.1
  clear y0 y1 y2 y3 y4 z0 z1 z2 z3 z4 H4 ev5 n5 s5 en
  obtain ⟨⟨y0, y1, y2, y3, y4⟩, fz⟩ := box5 x5
  clear fz x5
  go_wp2_with fail
  go_region_held3 (fun V => V.cell? ⟨b, 2, none⟩ = some (.int .u64 ((S.cnt : Int) + 1)) ∧ V.cell? ⟨w.heap.size, 0, none⟩ = some (.int .i64 kd) ∧ V.cell? ⟨w.heap.size, 1, none⟩ = some (.string T) ∧ V.cell? ⟨w.heap.size, 2, none⟩ = some (.slice e1 n1 f1) ∧ V.cell? ⟨w.heap.size, 3, none⟩ = some (.slice e2 n2 f2) ∧ V.cell? ⟨w.heap.size, 4, none⟩ = some (.slice e3 n3 f3)) (first | exact ⟨c2, y0, y1, y2, y3, y4⟩ | exact ⟨c6, (box5 x6).1⟩) (first
    | (go_at_call 41; refine (HC.out _ (by first | exact Below.refl _ _ | exact (Below.refl _ _).drew)).mono ?_; rintro r w6 ⟨rfl, hdn, x6, c6⟩; have HF := hid_of hdn; clear hdn))
  clear c2 y0 y1 y2 y3 y4
  obtain ⟨⟨y0, y1, y2, y3, y4⟩, fz⟩ := box5 x6
  have H7 : Hid (Calls Tryz.prog 48 #[ptr b, .agg #[.int .i64 1, .string (mk k), .int .i64 kd, .string T, .slice e1 n1 f1, .slice e2 n2 f2, .slice e3 n3 f3, .int .i64 d]] w6 fun r w' => r = .returned (.tuple #[]) ∧ Below w6.heap.size w6 w') := hid_of (by
    obtain ⟨F6, s6, _, _⟩ := HF.out
    exact note_none s6 rfl _ _ _ _ _ _ _ _ _ _ _ _ _ _)
  go_wp2_with fail
  refine H7.out.mono ?_
  rintro r w7 ⟨rfl, hb7⟩
  have HB7 := hid_of hb7
  clear hb7
  go_wp2_with fail
  go_ret
  refine ⟨rfl, ?_⟩
  obtain ⟨F6, s6, ev6, n6⟩ := HF.out
  exact ⟨F6, s6.below HB7.out, ev6.trans (Ev.of_below HB7.out), n6⟩
end Go.Proofs.YtcgdnpcegcmboaaGreatDoor.SPut
end
section
namespace Go.Proofs.YtcgdnpcegcmboaaGreatDoor.SDrop
open Go.RowKit Go.Maps
open Go.Proofs.YtcgdnpcegcmboaaGreatDoor.SpaceMath (wout withL lkp keys Ris toD)
open Go.Proofs.YtcgdnpcegcmboaaGreatDoor.ValueMath (Vl chk small)
open Go.Proofs.YtcgdnpcegcmboaaGreatDoor.Base (mk mk_list mk_size Gr hid_of)
open Go.Proofs.YtcgdnpcegcmboaaGreatDoor.Turn
open Go.Proofs.YtcgdnpcegcmboaaGreatDoor.RowB (Es)
open Go.Proofs.YtcgdnpcegcmboaaGreatDoor.Vals
open Go.Proofs.YtcgdnpcegcmboaaGreatDoor.Check0 (Wel)
open Go.Proofs.YtcgdnpcegcmboaaGreatDoor.SBase
open Go.Proofs.YtcgdnpcegcmboaaGreatDoor.SFind
open Go.Proofs.YtcgdnpcegcmboaaGreatDoor.SMath
open Go.Proofs.YtcgdnpcegcmboaaGreatDoor.SSet
open Go.Proofs.YtcgdnpcegcmboaaGreatDoor.STouch
open Go.Proofs.YtcgdnpcegcmboaaGreatDoor.SPut
set_option linter.unusedVariables false
set_option linter.unusedSimpArgs false
theorem dn_below {F X : Nat → Prop} {b : Nat} {w w1 w2 : World} {S : Sp} (h : Dn F X b w w1 S) (hb : Below w1.heap.size w1 w2) : Dn F X b w w2 S := by
  obtain ⟨F6, s6, ev6, n6⟩ := h
  exact ⟨F6, s6.below hb, ev6.trans (Ev.of_below hb), n6⟩
/-- first new memory, then a call -/
theorem dn_after {F X : Nat → Prop} {b : Nat} {w w1 w2 : World} {S : Sp} (hb : Below w.heap.size w w1) (h : Dn F X b w1 w2 S) : Dn F X b w w2 S := by
  obtain ⟨F6, s6, ev6, n6⟩ := h
  exact ⟨F6, s6, (Ev.of_below hb).trans ev6, fun k q => (n6 k q).imp id fun q => Nat.le_trans hb.size q⟩
/-- one call, then another -/
theorem dn_dn {F X : Nat → Prop} {b : Nat} {w w1 w2 : World} {S S' : Sp} (h : Dn F X b w w1 S) (h2 : ∀ F1, SP F1 (fun k => X k ∨ F1 k) b w1 S → Dn F1 (fun k => X k ∨ F1 k) b w1 w2 S') : Dn F X b w w2 S' := by
  obtain ⟨F1, s1, ev1, n1⟩ := h
  exact Dn.trans (S1 := S) ev1 n1 (h2 F1 s1)
set_option maxHeartbeats 1000000 in
set_option maxRecDepth 100000 in
theorem drop_yes {F X : Nat → Prop} {b : Nat} {w : World} {S : Sp} (h : SP F X b w S) (hm : S.mrk = none) (hc : S.cnt + 1 < 18446744073709551616) (k : Bs) (hk : k.length ≤ 281474976710656) {e : En} (he : lkp S.l k = some e) :
    Calls Tryz.prog 168 #[ptr b, .string (mk k)] w fun r w' => r = .returned (.bool true) ∧ Dn F X b w w' ⟨wout S.l k, S.cnt + 1, none⟩ := by
  have H1 := hid_of (find_call h k hk)
  rw [he] at H1
  have HH := hid_of h
  clear h
  go_enter Tryz.func168, Tryz.ntmps168
  go_wp2_with fail
  refine H1.out.mono ?_
  rintro r w1 ⟨v, rfl, hv, hb1⟩
  have hver := (show EnAt X w k v e from hv).ver.1
  obtain ⟨a1, c1, a2, c2, a3, c3, rfl, -⟩ := EnAt.shape hv
  unfold eV
  have H2 := hid_of (there_call (mk k) (mk e.val.text) e.val.kind e.due a1 a2 a3 e.val.list.length c1 e.val.fields.length c2 e.val.ranked.length c3 e.ver w1)
  rw [decide_eq_true hver] at H2
  have HB1 := hid_of hb1
  clear hb1 hv H1
  go_wp2_with fail
  refine H2.out.mono ?_
  rintro r w2 ⟨rfl, hb2⟩
  have HB2 := hid_of (HB1.out.trans (hb2.mono HB1.out.size))
  clear hb2 HB1 H2
  have H3 := hid_of (touch_none (HH.out.below HB2.out) hm hc (mk k))
  go_wp2_with fail
  refine H3.out.mono ?_
  rintro r w3 ⟨rfl, hd3⟩
  have D3 := hid_of (dn_after HB2.out hd3)
  clear hd3 H3
  have H4 : Hid (Calls Tryz.prog 41 #[ptr b, .string (mk k), zE] w3 fun r w' => r = .returned (.tuple #[]) ∧ Dn F X b w w' ⟨wout S.l k, S.cnt + 1, none⟩) := hid_of (by
    obtain ⟨F1, s1, ev1, n1⟩ := D3.out
    refine (set_none s1 k hk).mono ?_
    rintro r w' ⟨rfl, hd⟩
    exact ⟨rfl, Dn.trans (S1 := ⟨S.l, S.cnt + 1, none⟩) ev1 n1 hd⟩)
  unfold zE at H4
  go_wp2_with fail
  refine H4.out.mono ?_
  rintro r w4 ⟨rfl, hd4⟩
  have D4 := hid_of hd4
  clear hd4 H4 D3
  have H5 : Hid (Calls Tryz.prog 48 #[ptr b, .agg #[.int .i64 2, .string (mk k), .int .i64 0, .string ⟨#[]⟩, .slice none 0 0, .slice none 0 0, .slice none 0 0, .int .i64 0]] w4 fun r w' => r = .returned (.tuple #[]) ∧ Below w4.heap.size w4 w') := hid_of (by
    obtain ⟨F6, s6, _, _⟩ := D4.out
    exact note_none s6 rfl _ _ _ _ _ _ _ _ _ _ _ _ _ _)
  go_wp2_with fail
  refine H5.out.mono ?_
  rintro r w5 ⟨rfl, hb5⟩
  have HB5 := hid_of hb5
  clear hb5
  go_wp2_with fail
  go_ret
  exact ⟨rfl, dn_below D4.out HB5.out⟩
set_option maxHeartbeats 1000000 in
set_option maxRecDepth 100000 in
theorem drop_no {F X : Nat → Prop} {b : Nat} {w : World} {S : Sp} (h : SP F X b w S) (k : Bs) (hk : k.length ≤ 281474976710656) (he : lkp S.l k = none) :
    Calls Tryz.prog 168 #[ptr b, .string (mk k)] w fun r w' => r = .returned (.bool false) ∧ Below w.heap.size w w' := by
  have H1 := hid_of (find_call h k hk)
  rw [he] at H1
  clear h
  go_enter Tryz.func168, Tryz.ntmps168
  go_wp2_with fail
  refine H1.out.mono ?_
  rintro r w1 ⟨v, rfl, hv, hb1⟩
  have hv : v = zE := hv
  subst hv
  unfold zE
  have H2 := hid_of (there_call ⟨#[]⟩ ⟨#[]⟩ 0 0 none none none 0 0 0 0 0 0 0 w1)
  rw [decide_eq_false (Nat.lt_irrefl 0)] at H2
  have HB1 := hid_of hb1
  clear hb1 H1
  go_wp2_with fail
  refine H2.out.mono ?_
  rintro r w2 ⟨rfl, hb2⟩
  have HB2 := hid_of (HB1.out.trans (hb2.mono HB1.out.size))
  clear hb2 HB1 H2
  go_wp2_with fail
  go_ret
  exact ⟨rfl, HB2.out⟩
set_option maxRecDepth 100000 in
theorem counter_call {F X : Nat → Prop} {b : Nat} {w : World} {S : Sp} (h : SP F X b w S) : Calls Tryz.prog 16 #[ptr b] w fun r w' => r = .returned (.int .u64 (S.cnt : Int)) ∧ w' = w := by
  have c2 := (sp_cells h).2.1
  clear h
  go_enter Tryz.func16, Tryz.ntmps16
  go_wp2_with fail
  go_ret
  exact ⟨rfl, rfl⟩
theorem en_cells {X : Nat → Prop} {w : World} {k : Bs} {v : Value} {e : En} (h : EnAt X w k v e) : ∃ T kd a1 n1 c1 a2 n2 c2 a3 n3 c3, v = .agg #[.string (mk k), .int .i64 kd, .string T, .slice a1 n1 c1, .slice a2 n2 c2, .slice a3 n3 c3, .int .i64 e.due, .int .u64 (e.ver : Int)] ∧ (∀ d' n' : Nat, True) := by
  obtain ⟨a1, c1, a2, c2, a3, c3, rfl, _⟩ := h.shape
  exact ⟨_, _, _, _, _, _, _, _, _, _, _, rfl, fun _ _ => trivial⟩
abbrev eO (K T : ByteArray) (kd : Int) (A B C : Value) (d : Int) (n : Int) : Obj := .cells #[.string K, .int .i64 kd, .string T, A, B, C, .int .i64 d, .int .u64 n] 87
set_option maxHeartbeats 1000000 in
set_option maxRecDepth 100000 in
theorem due_yes {F X : Nat → Prop} {b : Nat} {w : World} {S : Sp} (h : SP F X b w S) (k : Bs) (hk : k.length ≤ 281474976710656) (now : Int) {e : En} (he : lkp S.l k = some e) (hsn : seenB e.due e.ver now = true) :
    Calls Tryz.prog 23 #[ptr b, .string (mk k), .int .i64 now] w fun r w' => r = .returned (.tuple #[.int .i64 e.due, .bool true]) ∧ Below w.heap.size w w' := by
  have H1 := hid_of (find_call h k hk)
  rw [he] at H1
  clear h
  go_enter Tryz.func23, Tryz.ntmps23
  go_wp2_with fail
  refine H1.out.mono ?_
  rintro r w1 ⟨v, rfl, hv, hb1⟩
  obtain ⟨T, kd, a1, n1, c1, a2, n2, c2, a3, n3, c3, rfl, -⟩ := en_cells hv
  obtain ⟨W, hW⟩ : ∃ W, W = w1.alloc (eO (mk k) T kd (.slice a1 n1 c1) (.slice a2 n2 c2) (.slice a3 n3 c3) e.due (e.ver : Int)) := ⟨_, rfl⟩
  have x0 : W.heap[w1.heap.size]? = some (eO (mk k) T kd (.slice a1 n1 c1) (.slice a2 n2 c2) (.slice a3 n3 c3) e.due (e.ver : Int)) := by rw [hW]; exact heap_alloc_new w1 _
  have H2 := hid_of (seen_call (mk k) T kd e.due now a1 a2 a3 n1 c1 n2 c2 n3 c3 e.ver W)
  rw [hsn] at H2
  have HB1 := hid_of (show Below w.heap.size w W by rw [hW]; exact hb1.trans ((alb w1 _).mono hb1.size))
  have HX := hid_of x0
  have HW := hid_of hW
  clear hb1 hv H1 x0 hW
  go_wp2_with fail
  rw [← HW.out]
  refine H2.out.mono ?_
  rintro r w2 ⟨rfl, hb2⟩
  have HB2 := hid_of (HB1.out.trans (hb2.mono HB1.out.size))
  have c6 : w2.cell? ⟨w1.heap.size, 6, none⟩ = some (.int .i64 e.due) := Lib.cell_of_heap ((hb2.block _ (lt_of HX.out)).trans HX.out) 6
  clear hb2 H2
  go_wp2_with fail
  go_ret2
  exact ⟨rfl, HB2.out⟩
end Go.Proofs.YtcgdnpcegcmboaaGreatDoor.SDrop
end
section
namespace Go.Proofs.YtcgdnpcegcmboaaGreatDoor.QBase
open Go.RowKit Go.Maps
open Go.Proofs.YtcgdnpcegcmboaaGreatDoor.SpaceMath (wout withL lkp keys Ris toD)
open Go.Proofs.YtcgdnpcegcmboaaGreatDoor.ValueMath (Vl chk small)
open Go.Proofs.YtcgdnpcegcmboaaGreatDoor.Base (mk mk_list mk_size Gr hid_of)
open Go.Proofs.YtcgdnpcegcmboaaGreatDoor.Turn
open Go.Proofs.YtcgdnpcegcmboaaGreatDoor.Vals
open Go.Proofs.YtcgdnpcegcmboaaGreatDoor.Check0 (Wel)
open Go.Proofs.YtcgdnpcegcmboaaGreatDoor.SBase
open Go.Proofs.YtcgdnpcegcmboaaGreatDoor.SFind
open Go.Proofs.YtcgdnpcegcmboaaGreatDoor.SSet (box8)
open Go.Proofs.YtcgdnpcegcmboaaGreatDoor.SPut (vO)
open Go.Proofs.YtcgdnpcegcmboaaGreatDoor.SDrop (eO en_cells)
set_option linter.unusedVariables false
set_option linter.unusedSimpArgs false
def gt (S : Sp) (now : Int) (k : Bs) : Option En := (lkp S.l k).filter fun e => seenB e.due e.ver now
theorem gt_none {S : Sp} {now : Int} {k : Bs} (h : gt S now k = none) : seenB (((lkp S.l k).map (·.due)).getD 0) (((lkp S.l k).map (·.ver)).getD 0) now = false := by
  unfold gt at h
  cases e : lkp S.l k with
  | none => simp [seenB]
  | some x =>
    rw [e] at h
    cases q : seenB x.due x.ver now with
    | false => exact q
    | true => simp [Option.filter, q] at h
theorem gt_some {S : Sp} {now : Int} {k : Bs} {e : En} (h : gt S now k = some e) : lkp S.l k = some e ∧ seenB e.due e.ver now = true := by
  unfold gt at h
  cases q : lkp S.l k with
  | none => rw [q] at h; cases h
  | some x =>
    rw [q] at h
    cases r : seenB x.due x.ver now with
    | false => simp [Option.filter, r] at h
    | true =>
      simp [Option.filter, r] at h
      subst h
      exact ⟨rfl, r⟩
abbrev zVb : Obj := vO 0 ⟨#[]⟩ (.slice none 0 0) (.slice none 0 0) (.slice none 0 0)
abbrev zVv : Value := .agg #[.int .i64 0, .string ⟨#[]⟩, .slice none 0 0, .slice none 0 0, .slice none 0 0]
set_option maxHeartbeats 1000000 in
set_option maxRecDepth 100000 in
theorem due_no {F X : Nat → Prop} {b : Nat} {w : World} {S : Sp} (h : SP F X b w S) (k : Bs) (hk : k.length ≤ 281474976710656) (now : Int) (hg : gt S now k = none) :
    Calls Tryz.prog 23 #[ptr b, .string (mk k), .int .i64 now] w fun r w' => r = .returned (.tuple #[.int .i64 0, .bool false]) ∧ Below w.heap.size w w' := by
  have H1 := hid_of (find_call h k hk)
  have HS := hid_of (gt_none hg)
  clear h hg
  go_enter Tryz.func23, Tryz.ntmps23
  go_wp2_with fail
  refine H1.out.mono ?_
  rintro r w1 ⟨v, rfl, hv, hb1⟩
  obtain ⟨K, T, kd, d, a1, n1, c1, a2, n2, c2, a3, n3, c3, n, rfl, hd, hn⟩ := HeldAt.shape hv
  obtain ⟨W, hW⟩ : ∃ W, W = w1.alloc (eO K T kd (.slice a1 n1 c1) (.slice a2 n2 c2) (.slice a3 n3 c3) d (n : Int)) := ⟨_, rfl⟩
  have H2 := hid_of (seen_call K T kd d now a1 a2 a3 n1 c1 n2 c2 n3 c3 n W)
  rw [hd, hn, HS.out, ← hd, ← hn] at H2
  have HB1 := hid_of (show Below w.heap.size w W by rw [hW]; exact hb1.trans ((alb w1 _).mono hb1.size))
  have HW := hid_of hW
  clear hb1 hv H1 hW hd hn
  go_wp2_with fail
  rw [← HW.out]
  refine H2.out.mono ?_
  rintro r w2 ⟨rfl, hb2⟩
  have HB2 := hid_of (HB1.out.trans (hb2.mono HB1.out.size))
  clear hb2 H2
  go_wp2_with fail
  go_ret2
  exact ⟨rfl, HB2.out⟩
/-- the deadline, and whether the key is there -/
def dueV (S : Sp) (now : Int) (k : Bs) : Int := ((gt S now k).map (·.due)).getD 0
theorem due_call {F X : Nat → Prop} {b : Nat} {w : World} {S : Sp} (h : SP F X b w S) (k : Bs) (hk : k.length ≤ 281474976710656) (now : Int) :
    Calls Tryz.prog 23 #[ptr b, .string (mk k), .int .i64 now] w fun r w' => r = .returned (.tuple #[.int .i64 (dueV S now k), .bool (gt S now k).isSome]) ∧ Below w.heap.size w w' := by
  unfold dueV
  cases hg : gt S now k with
  | none => exact due_no h k hk now hg
  | some e => exact SDrop.due_yes h k hk now (gt_some hg).1 (gt_some hg).2
set_option maxHeartbeats 2000000 in
set_option maxRecDepth 100000 in
theorem get_no {F X : Nat → Prop} {b : Nat} {w : World} {S : Sp} (h : SP F X b w S) (k : Bs) (hk : k.length ≤ 281474976710656) (now : Int) (hg : gt S now k = none) :
    Calls Tryz.prog 25 #[ptr b, .string (mk k), .int .i64 now] w fun r w' => r = .returned (.tuple #[zVv, .bool false]) ∧ Below w.heap.size w w' := by
  obtain ⟨W0, hW0⟩ : ∃ W0, W0 = w.alloc zVb := ⟨_, rfl⟩
  have b0 : Below w.heap.size w W0 := by rw [hW0]; exact alb _ _
  have X0 := hid_of (show W0.heap[w.heap.size]? = some zVb by rw [hW0]; exact heap_alloc_new w _)
  have B0 := hid_of b0
  have HW0 := hid_of hW0
  have H1 := hid_of (find_call (h.below b0) k hk)
  have HS := hid_of (gt_none hg)
  clear h hg hW0 b0
  go_enter Tryz.func25, Tryz.ntmps25
  go_wp2_with fail
  rw [← HW0.out]
  refine H1.out.mono ?_
  rintro r w1 ⟨v, rfl, hv, hb1⟩
  obtain ⟨K, T, kd, d, a1, n1, c1, a2, n2, c2, a3, n3, c3, n, rfl, hd, hn⟩ := HeldAt.shape hv
  obtain ⟨W, hW⟩ : ∃ W, W = w1.alloc (eO K T kd (.slice a1 n1 c1) (.slice a2 n2 c2) (.slice a3 n3 c3) d (n : Int)) := ⟨_, rfl⟩
  have bW : Below w1.heap.size w1 W := by rw [hW]; exact alb w1 _
  have H2 := hid_of (seen_call K T kd d now a1 a2 a3 n1 c1 n2 c2 n3 c3 n W)
  rw [hd, hn, HS.out, ← hd, ← hn] at H2
  have b1 := FRow.bel hb1 bW (Nat.le_refl _)
  have X1 := hid_of ((b1.block _ (lt_of X0.out)).trans X0.out)
  have HB1 := hid_of (FRow.bel B0.out b1 (Nat.le_refl _))
  have HW := hid_of hW
  clear hb1 hv H1 hW hd hn bW b1
  go_wp2_with fail
  rw [← HW.out]
  refine H2.out.mono ?_
  rintro r w2 ⟨rfl, hb2⟩
  have HB2 := hid_of (FRow.bel HB1.out hb2 (Nat.le_refl _))
  have x2 := (hb2.block _ (lt_of X1.out)).trans X1.out
  obtain ⟨⟨y0, y1, y2, y3, y4⟩, fy⟩ := box5 x2
  have fy0 := fy 0
  have fy1 := fy 1
  have fy2 := fy 2
  have fy3 := fy 3
  have fy4 := fy 4
  have z := Copy.set5 x2 (.int .i64 0) (.string ⟨#[]⟩) (.slice none 0 0) (.slice none 0 0) (.slice none 0 0)
  have hbf := Dec.f5_b (y0 := .int .i64 0) (y1 := .string ⟨#[]⟩) (y2 := .slice none 0 0) (y3 := .slice none 0 0) (y4 := .slice none 0 0) HB2.out (Nat.le_refl _)
  unfold Dec.fin5 at hbf
  clear hb2 H2 fy x2
  go_wp2_with fail
  obtain ⟨⟨g0, g1, g2, g3, g4⟩, -⟩ := box5 z
  exact bodyPost_ret (v := .tuple #[zVv, .bool false]) (by simp [results, Tryz.results25, go_sem, g0, g1, g2, g3, g4]) rfl ⟨rfl, hbf⟩
set_option maxHeartbeats 2000000 in
set_option maxRecDepth 100000 in
theorem get_yes {F X : Nat → Prop} {b : Nat} {w : World} {S : Sp} (h : SP F X b w S) (k : Bs) (hk : k.length ≤ 281474976710656) (now : Int) {en : En} (hg : gt S now k = some en) :
    Calls Tryz.prog 25 #[ptr b, .string (mk k), .int .i64 now] w fun r w' => ∃ u, r = .returned (.tuple #[u, .bool true]) ∧ VN w.heap.size w' u en.val ∧ Below w.heap.size w w' := by
  obtain ⟨W0, hW0⟩ : ∃ W0, W0 = w.alloc zVb := ⟨_, rfl⟩
  have b0 : Below w.heap.size w W0 := by rw [hW0]; exact alb _ _
  have X0 := hid_of (show W0.heap[w.heap.size]? = some zVb by rw [hW0]; exact heap_alloc_new w _)
  have B0 := hid_of b0
  have HW0 := hid_of hW0
  have H1 := hid_of (find_call (h.below b0) k hk)
  obtain ⟨hlk, hsn⟩ := gt_some hg
  rw [hlk] at H1
  have HS := hid_of hsn
  have HX := hid_of h.xl
  clear h hg hW0 b0 hlk hsn
  go_enter Tryz.func25, Tryz.ntmps25
  go_wp2_with fail
  rw [← HW0.out]
  refine H1.out.mono ?_
  rintro r w1 ⟨v, rfl, hv, hb1⟩
  have hgd := EnAt.gd hv
  obtain ⟨a1, c1, a2, c2, a3, c3, rfl, hvs⟩ := EnAt.shape hv
  unfold eV
  unfold vV at hvs
  obtain ⟨W, hW⟩ : ∃ W, W = w1.alloc (eO (mk k) (mk en.val.text) en.val.kind (.slice a1 en.val.list.length c1) (.slice a2 en.val.fields.length c2) (.slice a3 en.val.ranked.length c3) en.due (en.ver : Int)) := ⟨_, rfl⟩
  have bW : Below w1.heap.size w1 W := by rw [hW]; exact alb w1 _
  have H2 := hid_of (seen_call (mk k) (mk en.val.text) en.val.kind en.due now a1 a2 a3 en.val.list.length c1 (List.length en.val.fields) c2 (List.length en.val.ranked) c3 en.ver W)
  rw [HS.out] at H2
  have b1 := FRow.bel hb1 bW (Nat.le_refl _)
  have X1 := hid_of ((b1.block _ (lt_of X0.out)).trans X0.out)
  have XE := hid_of (show W.heap[w1.heap.size]? = some (eO (mk k) (mk en.val.text) en.val.kind (.slice a1 en.val.list.length c1) (.slice a2 en.val.fields.length c2) (.slice a3 en.val.ranked.length c3) en.due (en.ver : Int)) by rw [hW]; exact heap_alloc_new w1 _)
  have HB1 := hid_of (FRow.bel B0.out b1 (Nat.le_refl _))
  have HVA := hid_of (hvs.va.below b1)
  have HW := hid_of hW
  have hlt : w.heap.size < w1.heap.size := Nat.lt_of_lt_of_le (lt_of X0.out) hb1.size
  have HLT := hid_of hlt
  have HFT := hid_of hgd.wel.toFit
  clear hb1 hv H1 hW bW b1 hvs hgd hlt
  go_wp2_with fail
  rw [← HW.out]
  refine H2.out.mono ?_
  rintro r w2 ⟨rfl, hb2⟩
  have HB2 := hid_of (FRow.bel HB1.out hb2 (Nat.le_refl _))
  have X2 := hid_of ((hb2.block _ (lt_of X1.out)).trans X1.out)
  obtain ⟨⟨y0, y1, y2, y3, y4, y5, y6, y7⟩, -⟩ := box8 ((hb2.block _ (lt_of XE.out)).trans XE.out)
  have H3 := hid_of (Copy.copy_call (HVA.out.below hb2) HFT.out)
  clear hb2 H2
  go_wp2_with fail
  refine H3.out.mono ?_
  rintro r w3 ⟨u, rfl, hu, hb3⟩
  have x3 := (hb3.block _ (lt_of X2.out)).trans X2.out
  have HB3 := FRow.bel HB2.out hb3 (Nat.le_refl _)
  have hl2 : w.heap.size < w2.heap.size := lt_of X2.out
  obtain ⟨j, U, e1, m1, f1, e2, m2, f2, e3, m3, f3, rfl⟩ := Dec.vn_shape hu
  obtain ⟨⟨z0, z1, z2, z3, z4⟩, fy⟩ := box5 x3
  have fy0 := fy 0
  have fy1 := fy 1
  have fy2 := fy 2
  have fy3 := fy 3
  have fy4 := fy 4
  have z := Copy.set5 x3 (.int .i64 j) (.string U) (.slice e1 m1 f1) (.slice e2 m2 f2) (.slice e3 m3 f3)
  have hbf := Dec.f5_b (y0 := .int .i64 j) (y1 := .string U) (y2 := .slice e1 m1 f1) (y3 := .slice e2 m2 f2) (y4 := .slice e3 m3 f3) HB3 (Nat.le_refl _)
  have hvf := (Dec.f5_vn (y0 := .int .i64 j) (y1 := .string U) (y2 := .slice e1 m1 f1) (y3 := .slice e2 m2 f2) (y4 := .slice e3 m3 f3) hu hl2).mono (Nat.le_of_lt hl2)
  unfold Dec.fin5 at hbf hvf
  clear hb3 H3 fy x3 y0 y1 y2 y3 y4 y5 y6 y7
  go_wp2_with fail
  obtain ⟨⟨g0, g1, g2, g3, g4⟩, -⟩ := box5 z
  exact bodyPost_ret (v := .tuple #[.agg #[.int .i64 j, .string U, .slice e1 m1 f1, .slice e2 m2 f2, .slice e3 m3 f3], .bool true]) (by simp [results, Tryz.results25, go_sem, g0, g1, g2, g3, g4]) rfl ⟨_, rfl, hvf, hbf⟩
end Go.Proofs.YtcgdnpcegcmboaaGreatDoor.QBase
end
