/- Commands on strings: numbers added to. -/
import Derived.Test.YtiofnocmibjepaaGreatDoorQCmdM
import Derived.Deep.RegionHeld3
namespace Go.Proofs.YtiofnocmibjepaaGreatDoor.QAdd
open Go.RowKit Go.Maps
open Go.Lib (decDigits itoa)
open Go.Proofs.YtiofnocmibjepaaGreatDoor.TextMath
open Go.Proofs.YtiofnocmibjepaaGreatDoor.SpaceMath (wout withL lkp keys Ris toD)
open Go.Proofs.YtiofnocmibjepaaGreatDoor.ValueMath (Vl chk small)
open Go.Proofs.YtiofnocmibjepaaGreatDoor.Base (mk mk_list mk_size Gr hid_of SL)
open Go.Proofs.YtiofnocmibjepaaGreatDoor.Turn
open Go.Proofs.YtiofnocmibjepaaGreatDoor.Vals
open Go.Proofs.YtiofnocmibjepaaGreatDoor.Check0 (Wel)
open Go.Proofs.YtiofnocmibjepaaGreatDoor.SBase
open Go.Proofs.YtiofnocmibjepaaGreatDoor.SFind
open Go.Proofs.YtiofnocmibjepaaGreatDoor.QBase
open Go.Proofs.YtiofnocmibjepaaGreatDoor.QCmd
open Go.Proofs.YtiofnocmibjepaaGreatDoor.QPut
open Go.Proofs.YtiofnocmibjepaaGreatDoor.BIncr
open Go.Proofs.YtiofnocmibjepaaGreatDoor.Parse (Has)
set_option linter.unusedVariables false
set_option linter.unusedSimpArgs false
/-- the number that a text is -/
def prs (l : Bs) : Option Int := match Lib.atoiAll l with
  | .ok v => if itoa v = l then some v else none
  | _ => none
theorem prs_some {l : Bs} {v : Int} (h : prs l = some v) : textB v l = true := by
  unfold prs at h
  split at h
  · rename_i u hu
    split at h
    · rename_i hi
      cases h
      exact (text_iff _ _).2 ⟨Lib.atoiAll_bounds hu, hi⟩
    · cases h
  · cases h
theorem prs_none {l : Bs} (h : prs l = none) : ∀ v, textB v l = false := fun v => by
  cases q : textB v l with
  | false => rfl
  | true =>
    exfalso
    have q' := (text_iff _ _).1 q
    have := atoi_itoa v q'.1
    rw [q'.2] at this
    unfold prs at h
    rw [this] at h
    simp [q'.2] at h
theorem prs_itoa {v : Int} (h : InI v) : prs (itoa v) = some v := by
  unfold prs
  rw [atoi_itoa v h]
  simp
theorem in_iff {x : Int} : (decide (-9223372036854775808 ≤ x) && decide (x ≤ 9223372036854775807)) = true ↔ InI x := by
  unfold InI
  simp
inductive Inc where
  | num (v : Int)
  | over
  | none
def incM (l : Bs) (d : Int) : Inc := match prs l with
  | some v => if (decide (-9223372036854775808 ≤ v + d) && decide (v + d ≤ 9223372036854775807)) = true then .num (v + d) else .over
  | none => .none
theorem inc_num {l : Bs} {d v : Int} (h : incM l d = .num v) : BIncr.Told l d ⟨(itoa v).toArray⟩ v 0 ∧ InI v := by
  unfold incM at h
  cases e : prs l with
  | none => rw [e] at h; cases h
  | some u =>
    rw [e] at h
    simp only at h
    split at h
    · rename_i q
      cases h
      have q' : InI (u + d) := in_iff.1 q
      exact ⟨.inl ⟨u, prs_some e, q', rfl, rfl, rfl⟩, q'⟩
    · cases h
theorem inc_over {l : Bs} {d : Int} (h : incM l d = .over) : BIncr.Told l d ByteArray.empty 0 11 := by
  unfold incM at h
  cases e : prs l with
  | none => rw [e] at h; cases h
  | some u =>
    rw [e] at h
    simp only at h
    split at h
    · cases h
    · rename_i q
      exact .inr (.inl ⟨u, prs_some e, fun q' => q (in_iff.2 q'), rfl, rfl, rfl⟩)
theorem inc_none {l : Bs} {d : Int} (h : incM l d = .none) : BIncr.Told l d ByteArray.empty 0 10 := by
  unfold incM at h
  cases e : prs l with
  | none => exact .inr (.inr ⟨prs_none e, rfl, rfl, rfl⟩)
  | some u =>
    rw [e] at h
    simp only at h
    split at h <;> cases h
/-- what an addition answers, and leaves -/
def addM (S : Sp) (now : Int) (k : Bs) (d : Int) : (Int × ByteArray × Int) × Sp :=
  if (sa (gt S now k)).wrong then ((2, wrongB, 0), S) else
  match incM (if (sa (gt S now k)).there then (sa (gt S now k)).t else [48]) d with
  | .num v => ((3, ⟨#[]⟩, v), pS S k (itoa v) (dueV S now k))
  | .over => ((2, overB, 0), S)
  | .none => ((2, numB, 0), S)
abbrev rp3 (r : Int × ByteArray × Int) : Value := rp r.1 r.2.1 r.2.2
theorem itoa_len (v : Int) (h : InI v) : (itoa v).length ≤ 21 := by
  unfold itoa
  split
  · have := RPrint.dec_len (u := v.natAbs) (by obtain ⟨h1, h2⟩ := h; omega)
    simp
    omega
  · have := RPrint.dec_len (u := v.toNat) (by obtain ⟨h1, h2⟩ := h; omega)
    omega
theorem sl_cell {G : Nat → Prop} {w : World} {a : Option Addr} {L c : Nat} {l : List Base.El} (h : SL G w (.slice a L c) l) {j : Nat} (hj : j < l.length) : ∃ g o, a = some ⟨g, o, none⟩ ∧ w.cell? ⟨g, o + j, none⟩ = some (.string (mk l[j])) := Write.sl_at h hj
theorem sa_len {F X : Nat → Prop} {b : Nat} {w : World} {S : Sp} (h : SP F X b w S) (k : Bs) (now : Int) : (sa (gt S now k)).t.length ≤ 140737488351232 := by
  cases hg : gt S now k with
  | none => simp [sa]
  | some e =>
    obtain ⟨FI, bm, bi, mv, L, s, h⟩ := h
    have he := h.ent k
    rw [(gt_some hg).1] at he
    cases q : lkp L k with
    | none => rw [q] at he; exact absurd he (by simp [Two])
    | some v =>
      rw [q] at he
      have hc := (EnAt.gd he).chk
      unfold sa
      simp only
      split
      · rename_i h1
        unfold chk ValueMath.mayBe ValueMath.tOk at hc
        rw [h1] at hc
        simp at hc
        have := hc.2
        show e.val.text.length ≤ _
        omega
      · simp
section
variable {F X : Nat → Prop} {b : Nat} {w : World} {S : Sp}
set_option maxHeartbeats 4000000 in
set_option maxRecDepth 100000 in
theorem add_wrong (h : SP F X b w S) (hr : Room S) (hh : Has w) (k : Bs) (hk : k.length ≤ 281474976710656) (now : Int) {G : Nat → Prop} {a : Option Addr} {n c : Nat} {l : List Base.El} (hl : SL G w (.slice a n c) l) (hl0 : 0 < l.length) (hk0 : l[0] = k) (d : Int) (hd : InI d) {tx : Bs} {qq : Bool} (hs : sa (gt S now k) = ⟨tx, qq, true⟩) :
    Calls Tryz.prog 81 #[cV b now a n c, .int .i64 d] w fun e w' => e = .returned (rp 2 wrongB 0) ∧ Dn F X b w w' S := by
  obtain ⟨ga, oa, rfl, hc0⟩ := sl_cell hl hl0
  rw [hk0, Nat.add_zero] at hc0
  have hga : ga < w.heap.size := Base.cell_lt hc0
  obtain ⟨W, hW⟩ : ∃ W, W = (w.alloc (cO b now (some ⟨ga, oa, none⟩) n c)).alloc (rO 0 ⟨#[]⟩ 0 (.slice none 0 0)) := ⟨_, rfl⟩
  obtain ⟨bW, x0, x1, sW⟩ := two_boxes w (cO b now (some ⟨ga, oa, none⟩) n c) (rO 0 ⟨#[]⟩ 0 (.slice none 0 0)) ⟨_, _, rfl⟩
  rw [← hW] at bW x0 x1 sW
  have H1 := hid_of (stringAt_call ((sp_wide h bW)) k hk now (some ⟨ga, oa, none⟩) n c)
  have HH := hid_of h
  have HB := hid_of bW
  have HX0 := hid_of x0
  have HX1 := hid_of x1
  have HSW := hid_of sW
  have HW := hid_of hW
  have hn0 : 0 < n := by
    obtain ⟨a', c', e', hc', -⟩ := hl
    injection e' with e1 e2 e3
    omega
  rw [hs] at H1
  have H2 := hid_of fun V => refused_call wrongB V
  obtain ⟨XX, hXX⟩ : ∃ XX, mk tx = XX := ⟨_, rfl⟩
  simp only [hXX, show wt true = wrongB from rfl] at H1
  have hwe : wrongB.toList.isEmpty = false := by
    rw [show wrongB = mk wrongB.data.toList from rfl, mk_list]
    rfl
  clear hW bW x0 x1 sW h hs hXX
  generalize wrongB = WT at *
  go_enter Tryz.func81, Tryz.ntmps81
  go_wp2_with fail
  rw [← HW.out]
  refine H1.out.mono ?_
  rintro e w1 ⟨rfl, b1⟩
  obtain ⟨W1, hW1⟩ : ∃ W1, W1 = w1.alloc (hO XX qq) := ⟨_, rfl⟩
  have bW1 : Below w1.heap.size w1 W1 := by rw [hW1]; exact alb _ _
  have bb := FRow.bel b1 bW1 (Nat.le_refl _)
  have B1 := hid_of bb
  have XH := hid_of (show W1.heap[w1.heap.size]? = some (hO XX qq) by rw [hW1]; exact heap_alloc_new w1 _)
  have HW1 := hid_of hW1
  clear b1 bW1 bb hW1
  have t1 : QPut.Tmp w W (w.heap.size + 1) := ⟨by omega, by rw [HSW.out]; omega⟩
  have X1R := hid_of ((B1.out.block _ (lt_of HX1.out)).trans HX1.out)
  go_wp2_with fail
  rw [← HW1.out]
  refine (H2.out W1).mono ?_
  rintro e w2 ⟨rfl, b2⟩
  have z2 := (b2.block _ (lt_of X1R.out)).trans X1R.out
  have hz := fin4_at z2 (.int .i64 2) (.string WT) (.int .i64 0) (.slice none 0 0)
  have hdn := dn_tmp HH.out HB.out (Dn.of (sp_wide HH.out HB.out) (FRow.bel B1.out b2 (Nat.le_refl _))) (ev_fin4 t1 (.int .i64 2) (.string WT) (.int .i64 0) (.slice none 0 0))
  unfold fin4 at hz hdn
  obtain ⟨⟨v0, v1, v2, v3⟩, fv⟩ := box4 z2
  have fv0 := fv 0
  have fv1 := fv 1
  have fv2 := fv 2
  have fv3 := fv 3
  clear fv
  clear b2 z2
  go_wp2_with fail
  obtain ⟨⟨g0, g1, g2, g3⟩, -⟩ := box4 hz
  exact bodyPost_ret (v := .agg #[.int .i64 2, .string WT, .int .i64 0, .slice none 0 0]) (by simp [results, Tryz.results81, go_sem, g0, g1, g2, g3]) rfl ⟨rfl, hdn⟩
set_option maxHeartbeats 4000000 in
set_option maxRecDepth 100000 in
theorem add_over (h : SP F X b w S) (hr : Room S) (hh : Has w) (k : Bs) (hk : k.length ≤ 281474976710656) (now : Int) {G : Nat → Prop} {a : Option Addr} {n c : Nat} {l : List Base.El} (hl : SL G w (.slice a n c) l) (hl0 : 0 < l.length) (hk0 : l[0] = k) (d : Int) (hd : InI d) {tx : Bs} {qq : Bool} (hs : sa (gt S now k) = ⟨tx, qq, false⟩) (hi : incM (if qq then tx else [48]) d = .over) :
    Calls Tryz.prog 81 #[cV b now a n c, .int .i64 d] w fun e w' => e = .returned (rp 2 overB 0) ∧ Dn F X b w w' S := by
  obtain ⟨ga, oa, rfl, hc0⟩ := sl_cell hl hl0
  rw [hk0, Nat.add_zero] at hc0
  have hga : ga < w.heap.size := Base.cell_lt hc0
  obtain ⟨W, hW⟩ : ∃ W, W = (w.alloc (cO b now (some ⟨ga, oa, none⟩) n c)).alloc (rO 0 ⟨#[]⟩ 0 (.slice none 0 0)) := ⟨_, rfl⟩
  obtain ⟨bW, x0, x1, sW⟩ := two_boxes w (cO b now (some ⟨ga, oa, none⟩) n c) (rO 0 ⟨#[]⟩ 0 (.slice none 0 0)) ⟨_, _, rfl⟩
  rw [← hW] at bW x0 x1 sW
  have H1 := hid_of (stringAt_call ((sp_wide h bW)) k hk now (some ⟨ga, oa, none⟩) n c)
  have HH := hid_of h
  have HB := hid_of bW
  have HX0 := hid_of x0
  have HX1 := hid_of x1
  have HSW := hid_of sW
  have HW := hid_of hW
  have hn0 : 0 < n := by
    obtain ⟨a', c', e', hc', -⟩ := hl
    injection e' with e1 e2 e3
    omega
  rw [hs] at H1
  simp only [show wt false = (⟨#[]⟩ : ByteArray) from rfl] at H1
  obtain ⟨TX, hTX⟩ : ∃ TX, (if qq then mk tx else ⟨#[48]⟩) = TX := ⟨_, rfl⟩
  have htl : TX.data.toList = (if qq then tx else [48]) ∧ TX.size ≤ 140737488351232 := by
    have hlen := sa_len h k now
    rw [hs] at hlen
    rw [← hTX]
    cases qq
    · exact ⟨rfl, by rw [if_neg (by decide)]; decide⟩
    · exact ⟨Base.bs_mk tx, by rw [if_pos rfl, mk_size]; exact hlen⟩
  have H2 := hid_of fun (V : World) (hV : Has V) => incr_call TX d ByteArray.empty 0 11 V htl.2 hd (by rw [htl.1]; exact inc_over hi) hV
  unfold T3 at H2
  have HHS := hid_of hh
  have H3 := hid_of fun V => refused_call overB V
  clear hW bW x0 x1 sW h hs htl
  generalize hXX : mk tx = XX at *
  go_enter Tryz.func81, Tryz.ntmps81
  go_wp2_with fail
  rw [← HW.out]
  refine H1.out.mono ?_
  rintro e w1 ⟨rfl, b1⟩
  obtain ⟨W1, hW1⟩ : ∃ W1, W1 = w1.alloc (hO XX qq) := ⟨_, rfl⟩
  have bW1 : Below w1.heap.size w1 W1 := by rw [hW1]; exact alb _ _
  have bb := FRow.bel b1 bW1 (Nat.le_refl _)
  have B1 := hid_of bb
  have XH := hid_of (show W1.heap[w1.heap.size]? = some (hO XX qq) by rw [hW1]; exact heap_alloc_new w1 _)
  have HW1 := hid_of hW1
  clear b1 bW1 bb hW1
  have t1 : QPut.Tmp w W (w.heap.size + 1) := ⟨by omega, by rw [HSW.out]; omega⟩
  have X1R := hid_of ((B1.out.block _ (lt_of HX1.out)).trans HX1.out)
  have HV1 := hid_of (HHS.out.later (FRow.bel HB.out B1.out (Nat.le_refl _)))
  cases qq
  all_goals
    simp only [if_true, if_false, Bool.false_eq_true] at hTX
    subst hTX
    go_wp2_with fail
    rw [← HW1.out]
    refine (H2.out W1 HV1.out).mono ?_
    rintro e w2 ⟨rfl, b2⟩
    have B2 := hid_of (FRow.bel B1.out b2 (Nat.le_refl _))
    have X2R := hid_of ((b2.block _ (lt_of X1R.out)).trans X1R.out)
    clear b2
    go_wp2_with fail
    refine (H3.out w2).mono ?_
    rintro e w3 ⟨rfl, b3⟩
    have z2 := (b3.block _ (lt_of X2R.out)).trans X2R.out
    have hz := fin4_at z2 (.int .i64 2) (.string overB) (.int .i64 0) (.slice none 0 0)
    have hdn := dn_tmp HH.out HB.out (Dn.of (sp_wide HH.out HB.out) (FRow.bel B2.out b3 (Nat.le_refl _))) (ev_fin4 t1 (.int .i64 2) (.string overB) (.int .i64 0) (.slice none 0 0))
    unfold fin4 at hz hdn
    obtain ⟨⟨v0, v1, v2, v3⟩, fv⟩ := box4 z2
    have fv0 := fv 0
    have fv1 := fv 1
    have fv2 := fv 2
    have fv3 := fv 3
    clear fv
    clear b3 z2
    go_wp2_with fail
    obtain ⟨⟨g0, g1, g2, g3⟩, -⟩ := box4 hz
    exact bodyPost_ret (v := .agg #[.int .i64 2, .string overB, .int .i64 0, .slice none 0 0]) (by simp [results, Tryz.results81, go_sem, g0, g1, g2, g3]) rfl ⟨rfl, hdn⟩
set_option maxHeartbeats 4000000 in
set_option maxRecDepth 100000 in
theorem add_none (h : SP F X b w S) (hr : Room S) (hh : Has w) (k : Bs) (hk : k.length ≤ 281474976710656) (now : Int) {G : Nat → Prop} {a : Option Addr} {n c : Nat} {l : List Base.El} (hl : SL G w (.slice a n c) l) (hl0 : 0 < l.length) (hk0 : l[0] = k) (d : Int) (hd : InI d) {tx : Bs} {qq : Bool} (hs : sa (gt S now k) = ⟨tx, qq, false⟩) (hi : incM (if qq then tx else [48]) d = .none) :
    Calls Tryz.prog 81 #[cV b now a n c, .int .i64 d] w fun e w' => e = .returned (rp 2 numB 0) ∧ Dn F X b w w' S := by
  obtain ⟨ga, oa, rfl, hc0⟩ := sl_cell hl hl0
  rw [hk0, Nat.add_zero] at hc0
  have hga : ga < w.heap.size := Base.cell_lt hc0
  obtain ⟨W, hW⟩ : ∃ W, W = (w.alloc (cO b now (some ⟨ga, oa, none⟩) n c)).alloc (rO 0 ⟨#[]⟩ 0 (.slice none 0 0)) := ⟨_, rfl⟩
  obtain ⟨bW, x0, x1, sW⟩ := two_boxes w (cO b now (some ⟨ga, oa, none⟩) n c) (rO 0 ⟨#[]⟩ 0 (.slice none 0 0)) ⟨_, _, rfl⟩
  rw [← hW] at bW x0 x1 sW
  have H1 := hid_of (stringAt_call ((sp_wide h bW)) k hk now (some ⟨ga, oa, none⟩) n c)
  have HH := hid_of h
  have HB := hid_of bW
  have HX0 := hid_of x0
  have HX1 := hid_of x1
  have HSW := hid_of sW
  have HW := hid_of hW
  have hn0 : 0 < n := by
    obtain ⟨a', c', e', hc', -⟩ := hl
    injection e' with e1 e2 e3
    omega
  rw [hs] at H1
  simp only [show wt false = (⟨#[]⟩ : ByteArray) from rfl] at H1
  obtain ⟨TX, hTX⟩ : ∃ TX, (if qq then mk tx else ⟨#[48]⟩) = TX := ⟨_, rfl⟩
  have htl : TX.data.toList = (if qq then tx else [48]) ∧ TX.size ≤ 140737488351232 := by
    have hlen := sa_len h k now
    rw [hs] at hlen
    rw [← hTX]
    cases qq
    · exact ⟨rfl, by rw [if_neg (by decide)]; decide⟩
    · exact ⟨Base.bs_mk tx, by rw [if_pos rfl, mk_size]; exact hlen⟩
  have H2 := hid_of fun (V : World) (hV : Has V) => incr_call TX d ByteArray.empty 0 10 V htl.2 hd (by rw [htl.1]; exact inc_none hi) hV
  unfold T3 at H2
  have HHS := hid_of hh
  have H3 := hid_of fun V => refused_call numB V
  clear hW bW x0 x1 sW h hs htl
  generalize hXX : mk tx = XX at *
  go_enter Tryz.func81, Tryz.ntmps81
  go_wp2_with fail
  rw [← HW.out]
  refine H1.out.mono ?_
  rintro e w1 ⟨rfl, b1⟩
  obtain ⟨W1, hW1⟩ : ∃ W1, W1 = w1.alloc (hO XX qq) := ⟨_, rfl⟩
  have bW1 : Below w1.heap.size w1 W1 := by rw [hW1]; exact alb _ _
  have bb := FRow.bel b1 bW1 (Nat.le_refl _)
  have B1 := hid_of bb
  have XH := hid_of (show W1.heap[w1.heap.size]? = some (hO XX qq) by rw [hW1]; exact heap_alloc_new w1 _)
  have HW1 := hid_of hW1
  clear b1 bW1 bb hW1
  have t1 : QPut.Tmp w W (w.heap.size + 1) := ⟨by omega, by rw [HSW.out]; omega⟩
  have X1R := hid_of ((B1.out.block _ (lt_of HX1.out)).trans HX1.out)
  have HV1 := hid_of (HHS.out.later (FRow.bel HB.out B1.out (Nat.le_refl _)))
  cases qq
  all_goals
    simp only [if_true, if_false, Bool.false_eq_true] at hTX
    subst hTX
    go_wp2_with fail
    rw [← HW1.out]
    refine (H2.out W1 HV1.out).mono ?_
    rintro e w2 ⟨rfl, b2⟩
    have B2 := hid_of (FRow.bel B1.out b2 (Nat.le_refl _))
    have X2R := hid_of ((b2.block _ (lt_of X1R.out)).trans X1R.out)
    clear b2
    go_wp2_with fail
    refine (H3.out w2).mono ?_
    rintro e w3 ⟨rfl, b3⟩
    have z2 := (b3.block _ (lt_of X2R.out)).trans X2R.out
    have hz := fin4_at z2 (.int .i64 2) (.string numB) (.int .i64 0) (.slice none 0 0)
    have hdn := dn_tmp HH.out HB.out (Dn.of (sp_wide HH.out HB.out) (FRow.bel B2.out b3 (Nat.le_refl _))) (ev_fin4 t1 (.int .i64 2) (.string numB) (.int .i64 0) (.slice none 0 0))
    unfold fin4 at hz hdn
    obtain ⟨⟨v0, v1, v2, v3⟩, fv⟩ := box4 z2
    have fv0 := fv 0
    have fv1 := fv 1
    have fv2 := fv 2
    have fv3 := fv 3
    clear fv
    clear b3 z2
    go_wp2_with fail
    obtain ⟨⟨g0, g1, g2, g3⟩, -⟩ := box4 hz
    exact bodyPost_ret (v := .agg #[.int .i64 2, .string numB, .int .i64 0, .slice none 0 0]) (by simp [results, Tryz.results81, go_sem, g0, g1, g2, g3]) rfl ⟨rfl, hdn⟩
set_option maxHeartbeats 4000000 in
set_option maxRecDepth 100000 in
theorem add_num (h : SP F X b w S) (hr : Room S) (hh : Has w) (k : Bs) (hk : k.length ≤ 281474976710656) (now : Int) {G : Nat → Prop} {a : Option Addr} {n c : Nat} {l : List Base.El} (hl : SL G w (.slice a n c) l) (hl0 : 0 < l.length) (hk0 : l[0] = k) (d : Int) (hd : InI d) {tx : Bs} {qq : Bool} {v : Int} (hs : sa (gt S now k) = ⟨tx, qq, false⟩) (hi : incM (if qq then tx else [48]) d = .num v) :
    Calls Tryz.prog 81 #[cV b now a n c, .int .i64 d] w fun e w' => e = .returned (rp 3 ⟨#[]⟩ v) ∧ Dn F X b w w' (pS S k (itoa v) (dueV S now k)) := by
  obtain ⟨ga, oa, rfl, hc0⟩ := sl_cell hl hl0
  rw [hk0, Nat.add_zero] at hc0
  have hga : ga < w.heap.size := Base.cell_lt hc0
  obtain ⟨W, hW⟩ : ∃ W, W = (w.alloc (cO b now (some ⟨ga, oa, none⟩) n c)).alloc (rO 0 ⟨#[]⟩ 0 (.slice none 0 0)) := ⟨_, rfl⟩
  obtain ⟨bW, x0, x1, sW⟩ := two_boxes w (cO b now (some ⟨ga, oa, none⟩) n c) (rO 0 ⟨#[]⟩ 0 (.slice none 0 0)) ⟨_, _, rfl⟩
  rw [← hW] at bW x0 x1 sW
  have H1 := hid_of (stringAt_call ((sp_wide h bW)) k hk now (some ⟨ga, oa, none⟩) n c)
  have HH := hid_of h
  have HB := hid_of bW
  have HX0 := hid_of x0
  have HX1 := hid_of x1
  have HSW := hid_of sW
  have HW := hid_of hW
  have hn0 : 0 < n := by
    obtain ⟨a', c', e', hc', -⟩ := hl
    injection e' with e1 e2 e3
    omega
  rw [hs] at H1
  simp only [show wt false = (⟨#[]⟩ : ByteArray) from rfl] at H1
  obtain ⟨TX, hTX⟩ : ∃ TX, (if qq then mk tx else ⟨#[48]⟩) = TX := ⟨_, rfl⟩
  have htl : TX.data.toList = (if qq then tx else [48]) ∧ TX.size ≤ 140737488351232 := by
    have hlen := sa_len h k now
    rw [hs] at hlen
    rw [← hTX]
    cases qq
    · exact ⟨rfl, by rw [if_neg (by decide)]; decide⟩
    · exact ⟨Base.bs_mk tx, by rw [if_pos rfl, mk_size]; exact hlen⟩
  have H2 := hid_of fun (V : World) (hV : Has V) => incr_call TX d ⟨(itoa v).toArray⟩ v 0 V htl.2 hd (by rw [htl.1]; exact (inc_num hi).1) hV
  unfold T3 at H2
  have HHS := hid_of hh
  have H3 := hid_of fun V => count_call v V
  have H4 := hid_of fun (V : World) (hV : Below W.heap.size W V) => change_call ((sp_wide h bW).below hV) hr k hk (itoa v) (Nat.le_trans (itoa_len v (inc_num hi).2) (by decide)) now (some ⟨ga, oa, none⟩) n c 3 ⟨#[]⟩ v
  simp only [show mk (itoa v) = (⟨(itoa v).toArray⟩ : ByteArray) from rfl] at H4
  generalize pS S k (itoa v) (dueV S now k) = S' at *
  generalize (⟨(itoa v).toArray⟩ : ByteArray) = IT at *
  clear hW bW x0 x1 sW h hs htl
  generalize hXX : mk tx = XX at *
  go_enter Tryz.func81, Tryz.ntmps81
  go_wp2_with fail
  rw [← HW.out]
  refine H1.out.mono ?_
  rintro e w1 ⟨rfl, b1⟩
  obtain ⟨W1, hW1⟩ : ∃ W1, W1 = w1.alloc (hO XX qq) := ⟨_, rfl⟩
  have bW1 : Below w1.heap.size w1 W1 := by rw [hW1]; exact alb _ _
  have bb := FRow.bel b1 bW1 (Nat.le_refl _)
  have B1 := hid_of bb
  have XH := hid_of (show W1.heap[w1.heap.size]? = some (hO XX qq) by rw [hW1]; exact heap_alloc_new w1 _)
  have HW1 := hid_of hW1
  clear b1 bW1 bb hW1
  have t1 : QPut.Tmp w W (w.heap.size + 1) := ⟨by omega, by rw [HSW.out]; omega⟩
  have X1R := hid_of ((B1.out.block _ (lt_of HX1.out)).trans HX1.out)
  have HV1 := hid_of (HHS.out.later (FRow.bel HB.out B1.out (Nat.le_refl _)))
  cases qq
  all_goals
    simp only [if_true, if_false, Bool.false_eq_true] at hTX
    subst hTX
    go_wp2_with fail
    rw [← HW1.out]
    refine (H2.out W1 HV1.out).mono ?_
    rintro e w2 ⟨rfl, b2⟩
    have B2 := hid_of (FRow.bel B1.out b2 (Nat.le_refl _))
    clear b2 H2
    go_wp2_with fail
    have t0 : QPut.Tmp w W w.heap.size := ⟨Nat.le_refl _, by rw [HSW.out]; omega⟩
    have s0 : w2.drew.cell? ⟨w.heap.size, 0, none⟩ = some (ptr b) ∧ w2.drew.cell? ⟨w.heap.size, 1, none⟩ = some (.int .i64 now) ∧ w2.drew.cell? ⟨w.heap.size, 2, none⟩ = some (.slice (some ⟨ga, oa, none⟩) n c) := (box3 ((B2.out.block _ t0.2).trans HX0.out)).1
    go_region_held3 (fun V => V.cell? ⟨w.heap.size, 0, none⟩ = some (ptr b) ∧ V.cell? ⟨w.heap.size, 1, none⟩ = some (.int .i64 now) ∧ V.cell? ⟨w.heap.size, 2, none⟩ = some (.slice (some ⟨ga, oa, none⟩) n c)) (first | with_reducible exact s0 | with_reducible exact s1 | with_reducible exact s2 | with_reducible exact k2) (first
      | (go_at_call 71; refine (H3.out w2.drew).mono ?_; rintro e w3 ⟨rfl, b3⟩; have B3 := hid_of (FRow.bel B2.out (FRow.bel (Below.refl _ w2).drew b3 (Nat.le_refl _)) (Nat.le_refl _)); have s1 : w3.cell? ⟨w.heap.size, 0, none⟩ = some (ptr b) ∧ w3.cell? ⟨w.heap.size, 1, none⟩ = some (.int .i64 now) ∧ w3.cell? ⟨w.heap.size, 2, none⟩ = some (.slice (some ⟨ga, oa, none⟩) n c) := (box3 ((B3.out.block _ t0.2).trans HX0.out)).1; clear b3)
      | (go_at_call 70; refine (H4.out w3 B3.out).mono ?_; rintro e w4 ⟨rfl, d4⟩; have D4 := hid_of (SDrop.dn_after B3.out d4); have zz0 := (dn_block HH.out HB.out D4.out t0).trans HX0.out; have zz1 := (dn_block HH.out HB.out D4.out t1).trans HX1.out; have Z4 := hid_of zz1; have s2 : w4.cell? ⟨w.heap.size, 0, none⟩ = some (ptr b) ∧ w4.cell? ⟨w.heap.size, 1, none⟩ = some (.int .i64 now) ∧ w4.cell? ⟨w.heap.size, 2, none⟩ = some (.slice (some ⟨ga, oa, none⟩) n c) := (box3 zz0).1; have k2 : ((((w4.setCell ⟨w.heap.size + 1, 0, none⟩ (.int .i64 3)).setCell ⟨w.heap.size + 1, 1, none⟩ (.string ⟨#[]⟩)).setCell ⟨w.heap.size + 1, 2, none⟩ (.int .i64 v)).setCell ⟨w.heap.size + 1, 3, none⟩ (.slice none 0 0)).cell? ⟨w.heap.size, 0, none⟩ = some (ptr b) ∧ ((((w4.setCell ⟨w.heap.size + 1, 0, none⟩ (.int .i64 3)).setCell ⟨w.heap.size + 1, 1, none⟩ (.string ⟨#[]⟩)).setCell ⟨w.heap.size + 1, 2, none⟩ (.int .i64 v)).setCell ⟨w.heap.size + 1, 3, none⟩ (.slice none 0 0)).cell? ⟨w.heap.size, 1, none⟩ = some (.int .i64 now) ∧ ((((w4.setCell ⟨w.heap.size + 1, 0, none⟩ (.int .i64 3)).setCell ⟨w.heap.size + 1, 1, none⟩ (.string ⟨#[]⟩)).setCell ⟨w.heap.size + 1, 2, none⟩ (.int .i64 v)).setCell ⟨w.heap.size + 1, 3, none⟩ (.slice none 0 0)).cell? ⟨w.heap.size, 2, none⟩ = some (.slice (some ⟨ga, oa, none⟩) n c) := (box3 ((fin4_ne (by omega)).trans zz0)).1; obtain ⟨⟨v0, v1, v2, v3⟩, fv⟩ := box4 zz1; have fv0 := fv 0; have fv1 := fv 1; have fv2 := fv 2; have fv3 := fv 3; clear fv zz0 zz1 d4))
    go_wp2_with fail
    have hz := fin4_at Z4.out (.int .i64 3) (.string ⟨#[]⟩) (.int .i64 v) (.slice none 0 0)
    have hdn := dn_tmp HH.out HB.out D4.out (ev_fin4 t1 (.int .i64 3) (.string ⟨#[]⟩) (.int .i64 v) (.slice none 0 0))
    unfold fin4 at hz hdn
    obtain ⟨⟨g0, g1, g2, g3⟩, -⟩ := box4 hz
    exact bodyPost_ret (v := rp 3 ⟨#[]⟩ v) (by simp [results, Tryz.results81, go_sem, g0, g1, g2, g3]) rfl ⟨rfl, hdn⟩
theorem add_call (h : SP F X b w S) (hr : Room S) (hh : Has w) (k : Bs) (hk : k.length ≤ 281474976710656) (now : Int) {G : Nat → Prop} {a : Option Addr} {n c : Nat} {l : List Base.El} (hl : SL G w (.slice a n c) l) (hl0 : 0 < l.length) (hk0 : l[0] = k) (d : Int) (hd : InI d) :
    Calls Tryz.prog 81 #[cV b now a n c, .int .i64 d] w fun e w' => e = .returned (rp3 (addM S now k d).1) ∧ Dn F X b w w' (addM S now k d).2 := by
  obtain ⟨⟨tx, qq, wr⟩, hs⟩ : ∃ s, sa (gt S now k) = s := ⟨_, rfl⟩
  unfold addM
  rw [hs]
  cases wr with
  | true => exact add_wrong h hr hh k hk now hl hl0 hk0 d hd hs
  | false =>
    simp only [Bool.false_eq_true, if_false]
    cases hi : incM (if qq then tx else [48]) d with
    | num v => exact add_num h hr hh k hk now hl hl0 hk0 d hd hs hi
    | over => exact add_over h hr hh k hk now hl hl0 hk0 d hd hs hi
    | none => exact add_none h hr hh k hk now hl hl0 hk0 d hd hs hi
end
end Go.Proofs.YtiofnocmibjepaaGreatDoor.QAdd
