/- Commands on strings: INCR, INCRBY, DECRBY. The commands' map: names and functions. -/
import Derived.Test.YtiofnocmibjepaaGreatDoorQAddM
import Derived.Test.YtiofnocmibjepaaGreatDoorQBaseM
import Derived.Carry
section
namespace Go.Proofs.YtiofnocmibjepaaGreatDoor.QInc
open Go.RowKit Go.Maps
open Go.Lib (decDigits itoa)
open Go.Proofs.YtiofnocmibjepaaGreatDoor.TextMath
open Go.Proofs.YtiofnocmibjepaaGreatDoor.SpaceMath (wout withL lkp keys Ris toD)
open Go.Proofs.YtiofnocmibjepaaGreatDoor.ValueMath (Vl chk small)
open Go.Proofs.YtiofnocmibjepaaGreatDoor.Base (mk mk_list mk_size Gr hid_of SL)
open Go.Proofs.YtiofnocmibjepaaGreatDoor.Turn
open Go.Proofs.YtiofnocmibjepaaGreatDoor.Vals
open Go.Proofs.YtiofnocmibjepaaGreatDoor.SBase
open Go.Proofs.YtiofnocmibjepaaGreatDoor.SFind
open Go.Proofs.YtiofnocmibjepaaGreatDoor.QBase
open Go.Proofs.YtiofnocmibjepaaGreatDoor.QCmd
open Go.Proofs.YtiofnocmibjepaaGreatDoor.QPut
open Go.Proofs.YtiofnocmibjepaaGreatDoor.QAdd
open Go.Proofs.YtiofnocmibjepaaGreatDoor.Parse (Has)
set_option linter.unusedVariables false
set_option linter.unusedSimpArgs false
theorem isE (T : ByteArray) (l : Bs) (h : T.data.toList = l) : T.toList.isEmpty = l.isEmpty := by
  rw [show T = mk l from by rw [← h]; rfl, mk_list]
set_option maxHeartbeats 1000000 in
set_option maxRecDepth 100000 in
theorem number_call (T : ByteArray) (hT : T.size ≤ 140737488351232) (w : World) (hh : Has w) :
    Calls Tryz.prog 82 #[.string T] w fun e w' => e = .returned (.tuple #[.int .i64 ((prs T.data.toList).getD 0), .string (if (prs T.data.toList).isSome then ⟨#[]⟩ else numB)]) ∧ Below w.heap.size w w' := by
  cases hp : prs T.data.toList with
  | some v =>
    have H := hid_of (Parse.parse_any T w v 0 hT (.inl ⟨prs_some hp, rfl⟩) hh)
    clear hT hh hp
    show Calls Tryz.prog 82 #[.string T] w fun e w' => e = .returned (.tuple #[.int .i64 v, .string ⟨#[]⟩]) ∧ Below w.heap.size w w'
    go_enter Tryz.func82, Tryz.ntmps82
    go_wp2_with fail
    refine H.out.mono ?_
    rintro e w1 ⟨rfl, b1⟩
    have B := hid_of b1
    clear b1
    go_wp2_with fail
    go_ret2
    exact ⟨rfl, B.out⟩
  | none =>
    have H := hid_of (Parse.parse_any T w 0 10 hT (.inr ⟨prs_none hp, rfl, rfl⟩) hh)
    clear hT hh hp
    show Calls Tryz.prog 82 #[.string T] w fun e w' => e = .returned (.tuple #[.int .i64 0, .string numB]) ∧ Below w.heap.size w w'
    go_enter Tryz.func82, Tryz.ntmps82
    go_wp2_with fail
    refine H.out.mono ?_
    rintro e w1 ⟨rfl, b1⟩
    have B := hid_of b1
    clear b1
    go_wp2_with fail
    go_ret2
    exact ⟨rfl, B.out⟩
set_option maxHeartbeats 1000000 in
set_option maxRecDepth 100000 in
theorem neg_call (n : Int) (h : InI n) (w : World) :
    Calls Tryz.prog 83 #[.int .i64 0, .int .i64 n] w fun e w' => e = .returned (if n = -9223372036854775808 then .tuple #[.int .i64 0, .int .i64 11] else .tuple #[.int .i64 (-n), .int .i64 0]) ∧ w' = w := by
  obtain ⟨h1, h2⟩ := h
  by_cases hm : n = -9223372036854775808
  · rw [if_pos hm]
    have hw : IntKind.i64.wrap (-n) = n := by subst hm; decide
    have hn : n < 0 := by omega
    have hn2 : ¬ 0 < n := by omega
    clear hm h1 h2
    go_enter Tryz.func83, Tryz.ntmps83
    go_wp2_with fail
    go_ret2
    exact ⟨rfl, rfl⟩
  · rw [if_neg hm]
    have hw : IntKind.i64.wrap (0 - n) = -n := by
      have : (0 : Int) - n = -n := by omega
      rw [this]
      exact IntWalk.i64_in _ (by omega)
    by_cases hp : 0 < n
    · have q : ¬ 0 < -n := by omega
      have q2 : ¬ n < 0 := by omega
      go_enter Tryz.func83, Tryz.ntmps83
      go_wp2_with fail
      go_ret2
      exact ⟨rfl, rfl⟩
    · by_cases hn : n < 0
      · have q : ¬ -n < 0 := by omega
        go_enter Tryz.func83, Tryz.ntmps83
        go_wp2_with fail
        go_ret2
        exact ⟨rfl, rfl⟩
      · go_enter Tryz.func83, Tryz.ntmps83
        go_wp2_with fail
        go_ret2
        exact ⟨rfl, rfl⟩
def incrByM (S : Sp) (now : Int) (k t : Bs) : (Int × ByteArray × Int) × Sp := match prs t with
  | some n => addM S now k n
  | none => ((2, numB, 0), S)
def decrByM (S : Sp) (now : Int) (k t : Bs) : (Int × ByteArray × Int) × Sp := match prs t with
  | some n => if n = -9223372036854775808 then ((2, overB, 0), S) else addM S now k (-n)
  | none => ((2, numB, 0), S)
theorem prs_in {l : Bs} {v : Int} (h : prs l = some v) : InI v := ((text_iff _ _).1 (prs_some h)).1
section
variable {F X : Nat → Prop} {b : Nat} {w : World} {S : Sp}
set_option maxHeartbeats 4000000 in
set_option maxRecDepth 100000 in
theorem increase_call (h : SP F X b w S) (hr : Room S) (hh : Has w) (k : Bs) (hk : k.length ≤ 281474976710656) (now : Int) {G : Nat → Prop} {a : Option Addr} {n c : Nat} {l : List Base.El} (hl : SL G w (.slice a n c) l) (hl0 : 0 < l.length) (hk0 : l[0] = k) :
    Calls Tryz.prog 39 #[cV b now a n c] w fun e w' => e = .returned (rp3 (addM S now k 1).1) ∧ Dn F X b w w' (addM S now k 1).2 := by
  obtain ⟨W, hW⟩ : ∃ W, W = (w.alloc (cO b now a n c)).alloc (rO 0 ⟨#[]⟩ 0 (.slice none 0 0)) := ⟨_, rfl⟩
  obtain ⟨bW, x0, x1, sW⟩ := two_boxes w (cO b now a n c) (rO 0 ⟨#[]⟩ 0 (.slice none 0 0)) ⟨_, _, rfl⟩
  rw [← hW] at bW x0 x1 sW
  have HH := hid_of h
  have HB := hid_of bW
  have HX0 := hid_of x0
  have HX1 := hid_of x1
  have HSW := hid_of sW
  have HW := hid_of hW
  have H1 := hid_of (add_call (sp_wide h bW) hr (hh.later bW) k hk now (hl.below bW) hl0 hk0 1 ⟨by decide, by decide⟩)
  obtain ⟨⟨⟨rk, rT, rn⟩, S'⟩, hm⟩ : ∃ m, addM S now k 1 = m := ⟨_, rfl⟩
  rw [hm] at H1 ⊢
  simp only [rp3] at H1 ⊢
  clear hW bW x0 x1 sW h hm
  go_enter Tryz.func39, Tryz.ntmps39
  go_wp2_with fail
  rw [← HW.out]
  refine H1.out.mono ?_
  rintro e w2 ⟨rfl, d2⟩
  have t1 : QPut.Tmp w W (w.heap.size + 1) := ⟨by omega, by rw [HSW.out]; omega⟩
  have z2 := (dn_block HH.out HB.out d2 t1).trans HX1.out
  have hz := fin4_at z2 (.int .i64 rk) (.string rT) (.int .i64 rn) (.slice none 0 0)
  have hdn := dn_tmp HH.out HB.out d2 (ev_fin4 t1 (.int .i64 rk) (.string rT) (.int .i64 rn) (.slice none 0 0))
  unfold fin4 at hz hdn
  obtain ⟨⟨v0, v1, v2, v3⟩, fv⟩ := box4 z2
  have fv0 := fv 0
  have fv1 := fv 1
  have fv2 := fv 2
  have fv3 := fv 3
  clear fv
  clear z2
  go_wp2_with fail
  obtain ⟨⟨g0, g1, g2, g3⟩, -⟩ := box4 hz
  exact bodyPost_ret (v := .agg #[.int .i64 rk, .string rT, .int .i64 rn, .slice none 0 0]) (by simp [results, Tryz.results39, go_sem, g0, g1, g2, g3]) rfl ⟨rfl, hdn⟩
set_option maxHeartbeats 4000000 in
set_option maxRecDepth 100000 in
theorem decrease_call (h : SP F X b w S) (hr : Room S) (hh : Has w) (k : Bs) (hk : k.length ≤ 281474976710656) (now : Int) {G : Nat → Prop} {a : Option Addr} {n c : Nat} {l : List Base.El} (hl : SL G w (.slice a n c) l) (hl0 : 0 < l.length) (hk0 : l[0] = k) :
    Calls Tryz.prog 31 #[cV b now a n c] w fun e w' => e = .returned (rp3 (addM S now k (-1)).1) ∧ Dn F X b w w' (addM S now k (-1)).2 := by
  obtain ⟨W, hW⟩ : ∃ W, W = (w.alloc (cO b now a n c)).alloc (rO 0 ⟨#[]⟩ 0 (.slice none 0 0)) := ⟨_, rfl⟩
  obtain ⟨bW, x0, x1, sW⟩ := two_boxes w (cO b now a n c) (rO 0 ⟨#[]⟩ 0 (.slice none 0 0)) ⟨_, _, rfl⟩
  rw [← hW] at bW x0 x1 sW
  have HH := hid_of h
  have HB := hid_of bW
  have HX0 := hid_of x0
  have HX1 := hid_of x1
  have HSW := hid_of sW
  have HW := hid_of hW
  have H1 := hid_of (add_call (sp_wide h bW) hr (hh.later bW) k hk now (hl.below bW) hl0 hk0 (-1) ⟨by decide, by decide⟩)
  obtain ⟨⟨⟨rk, rT, rn⟩, S'⟩, hm⟩ : ∃ m, addM S now k (-1) = m := ⟨_, rfl⟩
  rw [hm] at H1 ⊢
  simp only [rp3] at H1 ⊢
  clear hW bW x0 x1 sW h hm
  go_enter Tryz.func31, Tryz.ntmps31
  go_wp2_with fail
  rw [← HW.out]
  refine H1.out.mono ?_
  rintro e w2 ⟨rfl, d2⟩
  have t1 : QPut.Tmp w W (w.heap.size + 1) := ⟨by omega, by rw [HSW.out]; omega⟩
  have z2 := (dn_block HH.out HB.out d2 t1).trans HX1.out
  have hz := fin4_at z2 (.int .i64 rk) (.string rT) (.int .i64 rn) (.slice none 0 0)
  have hdn := dn_tmp HH.out HB.out d2 (ev_fin4 t1 (.int .i64 rk) (.string rT) (.int .i64 rn) (.slice none 0 0))
  unfold fin4 at hz hdn
  obtain ⟨⟨v0, v1, v2, v3⟩, fv⟩ := box4 z2
  have fv0 := fv 0
  have fv1 := fv 1
  have fv2 := fv 2
  have fv3 := fv 3
  clear fv
  clear z2
  go_wp2_with fail
  obtain ⟨⟨g0, g1, g2, g3⟩, -⟩ := box4 hz
  exact bodyPost_ret (v := .agg #[.int .i64 rk, .string rT, .int .i64 rn, .slice none 0 0]) (by simp [results, Tryz.results31, go_sem, g0, g1, g2, g3]) rfl ⟨rfl, hdn⟩
set_option maxHeartbeats 4000000 in
set_option maxRecDepth 100000 in
theorem increaseBy_call (h : SP F X b w S) (hr : Room S) (hh : Has w) (k t : Bs) (hk : k.length ≤ 281474976710656) (ht : t.length ≤ 140737488351232) (now : Int) {G : Nat → Prop} {a : Option Addr} {n c : Nat} {l : List Base.El} (hl : SL G w (.slice a n c) l) (hl0 : 1 < l.length) (hk0 : l[0] = k) (hk1 : l[1] = t) :
    Calls Tryz.prog 40 #[cV b now a n c] w fun e w' => e = .returned (rp3 (incrByM S now k t).1) ∧ Dn F X b w w' (incrByM S now k t).2 := by
  obtain ⟨ga, oa, rfl, hc1⟩ := sl_cell hl hl0
  rw [hk1] at hc1
  have hga : ga < w.heap.size := Base.cell_lt hc1
  have hn1 : 1 < n := by
    obtain ⟨a', c', e', hc', -⟩ := hl
    injection e' with e1 e2 e3
    omega
  obtain ⟨W, hW⟩ : ∃ W, W = (w.alloc (cO b now (some ⟨ga, oa, none⟩) n c)).alloc (rO 0 ⟨#[]⟩ 0 (.slice none 0 0)) := ⟨_, rfl⟩
  obtain ⟨bW, x0, x1, sW⟩ := two_boxes w (cO b now (some ⟨ga, oa, none⟩) n c) (rO 0 ⟨#[]⟩ 0 (.slice none 0 0)) ⟨_, _, rfl⟩
  rw [← hW] at bW x0 x1 sW
  have HH := hid_of h
  have HB := hid_of bW
  have HX0 := hid_of x0
  have HX1 := hid_of x1
  have HSW := hid_of sW
  have HW := hid_of hW
  have hpt : (mk t).data.toList = t := Base.bs_mk t
  have HN := hid_of (number_call (mk t) (by rw [mk_size]; exact ht) W (hh.later bW))
  rw [hpt] at HN
  unfold incrByM
  cases hp : prs t with
  | none =>
    rw [hp] at HN
    simp only [Option.getD_none, Option.isSome_none, Bool.false_eq_true, if_false] at HN
    have H2 := hid_of fun V => refused_call numB V
    have hwe : numB.toList.isEmpty = false := isE numB _ rfl
    clear hW bW x0 x1 sW h hp hpt
    show Calls Tryz.prog 40 #[cV b now (some ⟨ga, oa, none⟩) n c] w fun e w' => e = .returned (rp 2 numB 0) ∧ Dn F X b w w' S
    generalize numB = WT at *
    go_enter Tryz.func40, Tryz.ntmps40
    go_wp2_with fail
    rw [← HW.out]
    refine HN.out.mono ?_
    rintro e w1 ⟨rfl, b1⟩
    have B1 := hid_of b1
    clear b1
    go_wp2_with fail
    refine (H2.out w1).mono ?_
    rintro e w2 ⟨rfl, b2⟩
    have t1 : QPut.Tmp w W (w.heap.size + 1) := ⟨by omega, by rw [HSW.out]; omega⟩
    have z2 := (dn_block HH.out HB.out (Dn.of (sp_wide HH.out HB.out) (FRow.bel B1.out b2 (Nat.le_refl _))) t1).trans HX1.out
    have hz := fin4_at z2 (.int .i64 2) (.string WT) (.int .i64 0) (.slice none 0 0)
    have hdn := dn_tmp HH.out HB.out (Dn.of (sp_wide HH.out HB.out) (FRow.bel B1.out b2 (Nat.le_refl _))) (ev_fin4 t1 (.int .i64 2) (.string WT) (.int .i64 0) (.slice none 0 0))
    unfold fin4 at hz hdn
    obtain ⟨⟨v0, v1, v2, v3⟩, fv⟩ := box4 z2
    have fv0 := fv 0
    have fv1 := fv 1
    have fv2 := fv 2
    have fv3 := fv 3
    clear fv
    clear z2
    go_wp2_with fail
    obtain ⟨⟨g0, g1, g2, g3⟩, -⟩ := box4 hz
    exact bodyPost_ret (v := .agg #[.int .i64 2, .string WT, .int .i64 0, .slice none 0 0]) (by simp [results, Tryz.results40, go_sem, g0, g1, g2, g3]) rfl ⟨rfl, hdn⟩
  | some v =>
    rw [hp] at HN
    simp only [Option.getD_some, Option.isSome_some, if_true] at HN
    have H1 := hid_of fun (V : World) (hV : Below W.heap.size W V) => add_call ((sp_wide h bW).below hV) hr ((hh.later bW).later hV) k hk now ((hl.below bW).below hV) (Nat.lt_of_succ_lt hl0) hk0 v (prs_in hp)
    show Calls Tryz.prog 40 #[cV b now (some ⟨ga, oa, none⟩) n c] w fun e w' => e = .returned (rp3 (addM S now k v).1) ∧ Dn F X b w w' (addM S now k v).2
    obtain ⟨⟨⟨rk, rT, rn⟩, S'⟩, hm⟩ : ∃ m, addM S now k v = m := ⟨_, rfl⟩
    rw [hm] at H1 ⊢
    simp only [rp3] at H1 ⊢
    clear hW bW x0 x1 sW h hp hpt hm
    go_enter Tryz.func40, Tryz.ntmps40
    go_wp2_with fail
    rw [← HW.out]
    refine HN.out.mono ?_
    rintro e w1 ⟨rfl, b1⟩
    have B1 := hid_of b1
    obtain ⟨⟨y0, y1, y2⟩, -⟩ := box3 ((b1.block _ (lt_of HX0.out)).trans HX0.out)
    clear b1
    go_wp2_with fail
    refine (H1.out w1 B1.out).mono ?_
    rintro e w2 ⟨rfl, d2'⟩
    have d2 := SDrop.dn_after B1.out d2'
    clear d2'
    have t1 : QPut.Tmp w W (w.heap.size + 1) := ⟨by omega, by rw [HSW.out]; omega⟩
    have z2 := (dn_block HH.out HB.out d2 t1).trans HX1.out
    have hz := fin4_at z2 (.int .i64 rk) (.string rT) (.int .i64 rn) (.slice none 0 0)
    have hdn := dn_tmp HH.out HB.out d2 (ev_fin4 t1 (.int .i64 rk) (.string rT) (.int .i64 rn) (.slice none 0 0))
    unfold fin4 at hz hdn
    obtain ⟨⟨v0, v1, v2, v3⟩, fv⟩ := box4 z2
    have fv0 := fv 0
    have fv1 := fv 1
    have fv2 := fv 2
    have fv3 := fv 3
    clear fv
    clear z2
    go_wp2_with fail
    obtain ⟨⟨g0, g1, g2, g3⟩, -⟩ := box4 hz
    exact bodyPost_ret (v := .agg #[.int .i64 rk, .string rT, .int .i64 rn, .slice none 0 0]) (by simp [results, Tryz.results40, go_sem, g0, g1, g2, g3]) rfl ⟨rfl, hdn⟩
set_option maxHeartbeats 4000000 in
set_option maxRecDepth 100000 in
theorem decreaseBy_call (h : SP F X b w S) (hr : Room S) (hh : Has w) (k t : Bs) (hk : k.length ≤ 281474976710656) (ht : t.length ≤ 140737488351232) (now : Int) {G : Nat → Prop} {a : Option Addr} {n c : Nat} {l : List Base.El} (hl : SL G w (.slice a n c) l) (hl0 : 1 < l.length) (hk0 : l[0] = k) (hk1 : l[1] = t) :
    Calls Tryz.prog 32 #[cV b now a n c] w fun e w' => e = .returned (rp3 (decrByM S now k t).1) ∧ Dn F X b w w' (decrByM S now k t).2 := by
  obtain ⟨ga, oa, rfl, hc1⟩ := sl_cell hl hl0
  rw [hk1] at hc1
  have hga : ga < w.heap.size := Base.cell_lt hc1
  have hn1 : 1 < n := by
    obtain ⟨a', c', e', hc', -⟩ := hl
    injection e' with e1 e2 e3
    omega
  obtain ⟨W, hW⟩ : ∃ W, W = (w.alloc (cO b now (some ⟨ga, oa, none⟩) n c)).alloc (rO 0 ⟨#[]⟩ 0 (.slice none 0 0)) := ⟨_, rfl⟩
  obtain ⟨bW, x0, x1, sW⟩ := two_boxes w (cO b now (some ⟨ga, oa, none⟩) n c) (rO 0 ⟨#[]⟩ 0 (.slice none 0 0)) ⟨_, _, rfl⟩
  rw [← hW] at bW x0 x1 sW
  have HH := hid_of h
  have HB := hid_of bW
  have HX0 := hid_of x0
  have HX1 := hid_of x1
  have HSW := hid_of sW
  have HW := hid_of hW
  have hpt : (mk t).data.toList = t := Base.bs_mk t
  have HN := hid_of (number_call (mk t) (by rw [mk_size]; exact ht) W (hh.later bW))
  rw [hpt] at HN
  unfold decrByM
  cases hp : prs t with
  | none =>
    rw [hp] at HN
    simp only [Option.getD_none, Option.isSome_none, Bool.false_eq_true, if_false] at HN
    have H2 := hid_of fun V => refused_call numB V
    have hwe : numB.toList.isEmpty = false := isE numB _ rfl
    clear hW bW x0 x1 sW h hp hpt
    show Calls Tryz.prog 32 #[cV b now (some ⟨ga, oa, none⟩) n c] w fun e w' => e = .returned (rp 2 numB 0) ∧ Dn F X b w w' S
    generalize numB = WT at *
    go_enter Tryz.func32, Tryz.ntmps32
    go_wp2_with fail
    rw [← HW.out]
    refine HN.out.mono ?_
    rintro e w1 ⟨rfl, b1⟩
    have B1 := hid_of b1
    clear b1
    go_wp2_with fail
    refine (H2.out w1).mono ?_
    rintro e w2 ⟨rfl, b2⟩
    have t1 : QPut.Tmp w W (w.heap.size + 1) := ⟨by omega, by rw [HSW.out]; omega⟩
    have z2 := (dn_block HH.out HB.out (Dn.of (sp_wide HH.out HB.out) (FRow.bel B1.out b2 (Nat.le_refl _))) t1).trans HX1.out
    have hz := fin4_at z2 (.int .i64 2) (.string WT) (.int .i64 0) (.slice none 0 0)
    have hdn := dn_tmp HH.out HB.out (Dn.of (sp_wide HH.out HB.out) (FRow.bel B1.out b2 (Nat.le_refl _))) (ev_fin4 t1 (.int .i64 2) (.string WT) (.int .i64 0) (.slice none 0 0))
    unfold fin4 at hz hdn
    obtain ⟨⟨v0, v1, v2, v3⟩, fv⟩ := box4 z2
    have fv0 := fv 0
    have fv1 := fv 1
    have fv2 := fv 2
    have fv3 := fv 3
    clear fv
    clear z2
    go_wp2_with fail
    obtain ⟨⟨g0, g1, g2, g3⟩, -⟩ := box4 hz
    exact bodyPost_ret (v := .agg #[.int .i64 2, .string WT, .int .i64 0, .slice none 0 0]) (by simp [results, Tryz.results32, go_sem, g0, g1, g2, g3]) rfl ⟨rfl, hdn⟩
  | some v =>
    rw [hp] at HN
    simp only [Option.getD_some, Option.isSome_some, if_true] at HN
    have HS := hid_of fun (V : World) => neg_call v (prs_in hp) V
    show Calls Tryz.prog 32 #[cV b now (some ⟨ga, oa, none⟩) n c] w fun e w' => e = .returned (rp3 (if v = -9223372036854775808 then ((2, overB, 0), S) else addM S now k (-v)).1) ∧ Dn F X b w w' (if v = -9223372036854775808 then ((2, overB, 0), S) else addM S now k (-v)).2
    by_cases hv : v = -9223372036854775808
    · have H2 := hid_of fun V => refused_call overB V
      rw [if_pos hv] at HS ⊢
      clear hW bW x0 x1 sW h hp hpt hv
      show Calls Tryz.prog 32 #[cV b now (some ⟨ga, oa, none⟩) n c] w fun e w' => e = .returned (rp 2 overB 0) ∧ Dn F X b w w' S
      go_enter Tryz.func32, Tryz.ntmps32
      go_wp2_with fail
      rw [← HW.out]
      refine HN.out.mono ?_
      rintro e w1 ⟨rfl, b1⟩
      have B1 := hid_of b1
      clear b1
      go_wp2_with fail
      refine (HS.out w1).mono ?_
      rintro e w9 ⟨rfl, hw9⟩
      rw [hw9]
      clear hw9
      go_wp2_with fail
      refine (H2.out w1).mono ?_
      rintro e w2 ⟨rfl, b2⟩
      have t1 : QPut.Tmp w W (w.heap.size + 1) := ⟨by omega, by rw [HSW.out]; omega⟩
      have z2 := (dn_block HH.out HB.out (Dn.of (sp_wide HH.out HB.out) (FRow.bel B1.out b2 (Nat.le_refl _))) t1).trans HX1.out
      have hz := fin4_at z2 (.int .i64 2) (.string overB) (.int .i64 0) (.slice none 0 0)
      have hdn := dn_tmp HH.out HB.out (Dn.of (sp_wide HH.out HB.out) (FRow.bel B1.out b2 (Nat.le_refl _))) (ev_fin4 t1 (.int .i64 2) (.string overB) (.int .i64 0) (.slice none 0 0))
      unfold fin4 at hz hdn
      obtain ⟨⟨v0, v1, v2, v3⟩, fv⟩ := box4 z2
      have fv0 := fv 0
      have fv1 := fv 1
      have fv2 := fv 2
      have fv3 := fv 3
      clear fv
      clear z2
      go_wp2_with fail
      obtain ⟨⟨g0, g1, g2, g3⟩, -⟩ := box4 hz
      exact bodyPost_ret (v := .agg #[.int .i64 2, .string overB, .int .i64 0, .slice none 0 0]) (by simp [results, Tryz.results32, go_sem, g0, g1, g2, g3]) rfl ⟨rfl, hdn⟩
    · have hin : InI (-v) := by obtain ⟨q1, q2⟩ := prs_in hp; exact ⟨by omega, by omega⟩
      have H1 := hid_of fun (V : World) (hV : Below W.heap.size W V) => add_call ((sp_wide h bW).below hV) hr ((hh.later bW).later hV) k hk now ((hl.below bW).below hV) (Nat.lt_of_succ_lt hl0) hk0 (-v) hin
      rw [if_neg hv] at HS ⊢
      obtain ⟨⟨⟨rk, rT, rn⟩, S'⟩, hm⟩ : ∃ m, addM S now k (-v) = m := ⟨_, rfl⟩
      rw [hm] at H1 ⊢
      simp only [rp3] at H1 ⊢
      clear hW bW x0 x1 sW h hp hpt hm hv hin
      generalize -v = nv at *
      go_enter Tryz.func32, Tryz.ntmps32
      go_wp2_with fail
      rw [← HW.out]
      refine HN.out.mono ?_
      rintro e w1 ⟨rfl, b1⟩
      have B1 := hid_of b1
      obtain ⟨⟨y0, y1, y2⟩, -⟩ := box3 ((b1.block _ (lt_of HX0.out)).trans HX0.out)
      clear b1
      go_wp2_with fail
      refine (HS.out w1).mono ?_
      rintro e w9 ⟨rfl, hw9⟩
      rw [hw9]
      clear hw9
      go_wp2_with fail
      refine (H1.out w1 B1.out).mono ?_
      rintro e w2 ⟨rfl, d2'⟩
      have d2 := SDrop.dn_after B1.out d2'
      clear d2'
      have t1 : QPut.Tmp w W (w.heap.size + 1) := ⟨by omega, by rw [HSW.out]; omega⟩
      have z2 := (dn_block HH.out HB.out d2 t1).trans HX1.out
      have hz := fin4_at z2 (.int .i64 rk) (.string rT) (.int .i64 rn) (.slice none 0 0)
      have hdn := dn_tmp HH.out HB.out d2 (ev_fin4 t1 (.int .i64 rk) (.string rT) (.int .i64 rn) (.slice none 0 0))
      unfold fin4 at hz hdn
      obtain ⟨⟨v0, v1, v2, v3⟩, fv⟩ := box4 z2
      have fv0 := fv 0
      have fv1 := fv 1
      have fv2 := fv 2
      have fv3 := fv 3
      clear fv
      clear z2
      go_wp2_with fail
      obtain ⟨⟨g0, g1, g2, g3⟩, -⟩ := box4 hz
      exact bodyPost_ret (v := .agg #[.int .i64 rk, .string rT, .int .i64 rn, .slice none 0 0]) (by simp [results, Tryz.results32, go_sem, g0, g1, g2, g3]) rfl ⟨rfl, hdn⟩
end
end Go.Proofs.YtiofnocmibjepaaGreatDoor.QInc
end
section
namespace Go.Proofs.YtiofnocmibjepaaGreatDoor.QMap
open Go.RowKit Go.Maps
open Go.Proofs.YtiofnocmibjepaaGreatDoor.SpaceMath
open Go.Proofs.YtiofnocmibjepaaGreatDoor.Base (mk mk_list mk_size Gr hid_of SL)
open Go.Proofs.YtiofnocmibjepaaGreatDoor.Turn
open Go.Proofs.YtiofnocmibjepaaGreatDoor.Vals
open Go.Proofs.YtiofnocmibjepaaGreatDoor.SBase (KL RH RH_inv)
open Go.Proofs.YtiofnocmibjepaaGreatDoor.SFind (alb)
open Go.Proofs.YtiofnocmibjepaaGreatDoor.Swap (law9 key9)
open Go.Proofs.YtiofnocmibjepaaGreatDoor.SSet (owns_norm)
set_option linter.unusedVariables false
set_option linter.unusedSimpArgs false
abbrev mO : Obj := .map #[] 0
abbrev fnV (f : FuncId) : Value := .agg #[.func (.func f) #[] #[]]
theorem step {w W : World} {L : KL Value} (own : W.ownsMap Tryz.prog 9 RH w.heap.size L.length (toD L)) (ev : Ev (fun k => k = w.heap.size) (w.alloc mO) W) (hL : L.length < 1000) (k : SetMath.Bs) (hk : k.length ≤ 281474976710656) (v : Value) :
    ∃ W', (Instr.mapUpdate 51 (.map (some w.heap.size)) (.string (mk k)) v).run Tryz.prog W = .ok () W' ∧ W'.ownsMap Tryz.prog 9 RH w.heap.size (withL L k v).length (toD (withL L k v)) ∧ Ev (fun k => k = w.heap.size) (w.alloc mO) W' := by
  obtain ⟨W', h1, h2, h3⟩ := own.store law9 Tryz.underlying51 (by unfold maxLen; omega) (key9 k hk) (show RH v = some (.held v, []) from rfl)
  rw [put_D] at h2
  exact ⟨W', h1, owns_norm h2, ev.trans (Ev.turned h3 rfl)⟩
def cmdL : KL Value := [([97, 112, 112, 101, 110, 100], fnV 27), ([98, 105, 116, 99, 111, 117, 110, 116], fnV 28), ([98, 105, 116, 111, 112], fnV 29), ([98, 105, 116, 112, 111, 115], fnV 30), ([100, 101, 99, 114], fnV 31), ([100, 101, 99, 114, 98, 121], fnV 32), ([103, 101, 116], fnV 33), ([103, 101, 116, 98, 105, 116], fnV 34), ([103, 101, 116, 100, 101, 108], fnV 35), ([103, 101, 116, 101, 120], fnV 36), ([103, 101, 116, 114, 97, 110, 103, 101], fnV 37), ([103, 101, 116, 115, 101, 116], fnV 38), ([105, 110, 99, 114], fnV 39), ([105, 110, 99, 114, 98, 121], fnV 40), ([109, 103, 101, 116], fnV 41), ([109, 115, 101, 116], fnV 42), ([109, 115, 101, 116, 110, 120], fnV 43), ([112, 115, 101, 116, 101, 120], fnV 44), ([115, 101, 116], fnV 45), ([115, 101, 116, 98, 105, 116], fnV 46), ([115, 101, 116, 101, 120], fnV 47), ([115, 101, 116, 110, 120], fnV 48), ([115, 101, 116, 114, 97, 110, 103, 101], fnV 49), ([115, 116, 114, 108, 101, 110], fnV 50)]
theorem cmd_take (i : Nat) : (cmdL.take i).length < 1000 := by
  rw [List.length_take]
  exact Nat.lt_of_le_of_lt (Nat.min_le_right _ _) (by decide)
theorem put0 : withL (cmdL.take 0) [97, 112, 112, 101, 110, 100] (fnV 27) = cmdL.take 1 := by kernel_rfl
theorem put1 : withL (cmdL.take 1) [98, 105, 116, 99, 111, 117, 110, 116] (fnV 28) = cmdL.take 2 := by kernel_rfl
theorem put2 : withL (cmdL.take 2) [98, 105, 116, 111, 112] (fnV 29) = cmdL.take 3 := by kernel_rfl
theorem put3 : withL (cmdL.take 3) [98, 105, 116, 112, 111, 115] (fnV 30) = cmdL.take 4 := by kernel_rfl
theorem put4 : withL (cmdL.take 4) [100, 101, 99, 114] (fnV 31) = cmdL.take 5 := by kernel_rfl
theorem put5 : withL (cmdL.take 5) [100, 101, 99, 114, 98, 121] (fnV 32) = cmdL.take 6 := by kernel_rfl
theorem put6 : withL (cmdL.take 6) [103, 101, 116] (fnV 33) = cmdL.take 7 := by kernel_rfl
theorem put7 : withL (cmdL.take 7) [103, 101, 116, 98, 105, 116] (fnV 34) = cmdL.take 8 := by kernel_rfl
theorem put8 : withL (cmdL.take 8) [103, 101, 116, 100, 101, 108] (fnV 35) = cmdL.take 9 := by kernel_rfl
theorem put9 : withL (cmdL.take 9) [103, 101, 116, 101, 120] (fnV 36) = cmdL.take 10 := by kernel_rfl
theorem put10 : withL (cmdL.take 10) [103, 101, 116, 114, 97, 110, 103, 101] (fnV 37) = cmdL.take 11 := by kernel_rfl
theorem put11 : withL (cmdL.take 11) [103, 101, 116, 115, 101, 116] (fnV 38) = cmdL.take 12 := by kernel_rfl
theorem put12 : withL (cmdL.take 12) [105, 110, 99, 114] (fnV 39) = cmdL.take 13 := by kernel_rfl
theorem put13 : withL (cmdL.take 13) [105, 110, 99, 114, 98, 121] (fnV 40) = cmdL.take 14 := by kernel_rfl
theorem put14 : withL (cmdL.take 14) [109, 103, 101, 116] (fnV 41) = cmdL.take 15 := by kernel_rfl
theorem put15 : withL (cmdL.take 15) [109, 115, 101, 116] (fnV 42) = cmdL.take 16 := by kernel_rfl
theorem put16 : withL (cmdL.take 16) [109, 115, 101, 116, 110, 120] (fnV 43) = cmdL.take 17 := by kernel_rfl
theorem put17 : withL (cmdL.take 17) [112, 115, 101, 116, 101, 120] (fnV 44) = cmdL.take 18 := by kernel_rfl
theorem put18 : withL (cmdL.take 18) [115, 101, 116] (fnV 45) = cmdL.take 19 := by kernel_rfl
theorem put19 : withL (cmdL.take 19) [115, 101, 116, 98, 105, 116] (fnV 46) = cmdL.take 20 := by kernel_rfl
theorem put20 : withL (cmdL.take 20) [115, 101, 116, 101, 120] (fnV 47) = cmdL.take 21 := by kernel_rfl
theorem put21 : withL (cmdL.take 21) [115, 101, 116, 110, 120] (fnV 48) = cmdL.take 22 := by kernel_rfl
theorem put22 : withL (cmdL.take 22) [115, 101, 116, 114, 97, 110, 103, 101] (fnV 49) = cmdL.take 23 := by kernel_rfl
theorem put23 : withL (cmdL.take 23) [115, 116, 114, 108, 101, 110] (fnV 50) = cmdL.take 24 := by kernel_rfl
set_option maxHeartbeats 4000000 in
set_option maxRecDepth 100000 in
theorem commands_call (w : World) : Calls Tryz.prog 14 #[] w fun e w' => e = .returned (.map (some w.heap.size)) ∧ w'.ownsMap Tryz.prog 9 RH w.heap.size cmdL.length (toD cmdL) ∧ Below w.heap.size w w' := by
  have o0 : (w.alloc mO).ownsMap Tryz.prog 9 RH w.heap.size (cmdL.take 0).length (toD (cmdL.take 0)) := World.ownsMap_made (H := Value) w Tryz.prog 9 RH
  have e0 := Ev.refl (fun k => k = w.heap.size) (w.alloc mO)
  obtain ⟨W1, r1, o1, e1⟩ := step o0 e0 (cmd_take 0) [97, 112, 112, 101, 110, 100] (by decide) (fnV 27)
  rw [put0] at o1
  have r1 : (Instr.mapUpdate 51 (.map (some w.heap.size)) (.string ⟨#[97, 112, 112, 101, 110, 100]⟩) (.agg #[.func (.func 27) #[] #[]])).run Tryz.prog (w.alloc mO) = .ok () W1 := r1
  obtain ⟨W2, r2, o2, e2⟩ := step o1 e1 (cmd_take 1) [98, 105, 116, 99, 111, 117, 110, 116] (by decide) (fnV 28)
  rw [put1] at o2
  have r2 : (Instr.mapUpdate 51 (.map (some w.heap.size)) (.string ⟨#[98, 105, 116, 99, 111, 117, 110, 116]⟩) (.agg #[.func (.func 28) #[] #[]])).run Tryz.prog W1 = .ok () W2 := r2
  obtain ⟨W3, r3, o3, e3⟩ := step o2 e2 (cmd_take 2) [98, 105, 116, 111, 112] (by decide) (fnV 29)
  rw [put2] at o3
  have r3 : (Instr.mapUpdate 51 (.map (some w.heap.size)) (.string ⟨#[98, 105, 116, 111, 112]⟩) (.agg #[.func (.func 29) #[] #[]])).run Tryz.prog W2 = .ok () W3 := r3
  obtain ⟨W4, r4, o4, e4⟩ := step o3 e3 (cmd_take 3) [98, 105, 116, 112, 111, 115] (by decide) (fnV 30)
  rw [put3] at o4
  have r4 : (Instr.mapUpdate 51 (.map (some w.heap.size)) (.string ⟨#[98, 105, 116, 112, 111, 115]⟩) (.agg #[.func (.func 30) #[] #[]])).run Tryz.prog W3 = .ok () W4 := r4
  obtain ⟨W5, r5, o5, e5⟩ := step o4 e4 (cmd_take 4) [100, 101, 99, 114] (by decide) (fnV 31)
  rw [put4] at o5
  have r5 : (Instr.mapUpdate 51 (.map (some w.heap.size)) (.string ⟨#[100, 101, 99, 114]⟩) (.agg #[.func (.func 31) #[] #[]])).run Tryz.prog W4 = .ok () W5 := r5
  obtain ⟨W6, r6, o6, e6⟩ := step o5 e5 (cmd_take 5) [100, 101, 99, 114, 98, 121] (by decide) (fnV 32)
  rw [put5] at o6
  have r6 : (Instr.mapUpdate 51 (.map (some w.heap.size)) (.string ⟨#[100, 101, 99, 114, 98, 121]⟩) (.agg #[.func (.func 32) #[] #[]])).run Tryz.prog W5 = .ok () W6 := r6
  obtain ⟨W7, r7, o7, e7⟩ := step o6 e6 (cmd_take 6) [103, 101, 116] (by decide) (fnV 33)
  rw [put6] at o7
  have r7 : (Instr.mapUpdate 51 (.map (some w.heap.size)) (.string ⟨#[103, 101, 116]⟩) (.agg #[.func (.func 33) #[] #[]])).run Tryz.prog W6 = .ok () W7 := r7
  obtain ⟨W8, r8, o8, e8⟩ := step o7 e7 (cmd_take 7) [103, 101, 116, 98, 105, 116] (by decide) (fnV 34)
  rw [put7] at o8
  have r8 : (Instr.mapUpdate 51 (.map (some w.heap.size)) (.string ⟨#[103, 101, 116, 98, 105, 116]⟩) (.agg #[.func (.func 34) #[] #[]])).run Tryz.prog W7 = .ok () W8 := r8
  obtain ⟨W9, r9, o9, e9⟩ := step o8 e8 (cmd_take 8) [103, 101, 116, 100, 101, 108] (by decide) (fnV 35)
  rw [put8] at o9
  have r9 : (Instr.mapUpdate 51 (.map (some w.heap.size)) (.string ⟨#[103, 101, 116, 100, 101, 108]⟩) (.agg #[.func (.func 35) #[] #[]])).run Tryz.prog W8 = .ok () W9 := r9
  obtain ⟨W10, r10, o10, e10⟩ := step o9 e9 (cmd_take 9) [103, 101, 116, 101, 120] (by decide) (fnV 36)
  rw [put9] at o10
  have r10 : (Instr.mapUpdate 51 (.map (some w.heap.size)) (.string ⟨#[103, 101, 116, 101, 120]⟩) (.agg #[.func (.func 36) #[] #[]])).run Tryz.prog W9 = .ok () W10 := r10
  obtain ⟨W11, r11, o11, e11⟩ := step o10 e10 (cmd_take 10) [103, 101, 116, 114, 97, 110, 103, 101] (by decide) (fnV 37)
  rw [put10] at o11
  have r11 : (Instr.mapUpdate 51 (.map (some w.heap.size)) (.string ⟨#[103, 101, 116, 114, 97, 110, 103, 101]⟩) (.agg #[.func (.func 37) #[] #[]])).run Tryz.prog W10 = .ok () W11 := r11
  obtain ⟨W12, r12, o12, e12⟩ := step o11 e11 (cmd_take 11) [103, 101, 116, 115, 101, 116] (by decide) (fnV 38)
  rw [put11] at o12
  have r12 : (Instr.mapUpdate 51 (.map (some w.heap.size)) (.string ⟨#[103, 101, 116, 115, 101, 116]⟩) (.agg #[.func (.func 38) #[] #[]])).run Tryz.prog W11 = .ok () W12 := r12
  obtain ⟨W13, r13, o13, e13⟩ := step o12 e12 (cmd_take 12) [105, 110, 99, 114] (by decide) (fnV 39)
  rw [put12] at o13
  have r13 : (Instr.mapUpdate 51 (.map (some w.heap.size)) (.string ⟨#[105, 110, 99, 114]⟩) (.agg #[.func (.func 39) #[] #[]])).run Tryz.prog W12 = .ok () W13 := r13
  obtain ⟨W14, r14, o14, e14⟩ := step o13 e13 (cmd_take 13) [105, 110, 99, 114, 98, 121] (by decide) (fnV 40)
  rw [put13] at o14
  have r14 : (Instr.mapUpdate 51 (.map (some w.heap.size)) (.string ⟨#[105, 110, 99, 114, 98, 121]⟩) (.agg #[.func (.func 40) #[] #[]])).run Tryz.prog W13 = .ok () W14 := r14
  obtain ⟨W15, r15, o15, e15⟩ := step o14 e14 (cmd_take 14) [109, 103, 101, 116] (by decide) (fnV 41)
  rw [put14] at o15
  have r15 : (Instr.mapUpdate 51 (.map (some w.heap.size)) (.string ⟨#[109, 103, 101, 116]⟩) (.agg #[.func (.func 41) #[] #[]])).run Tryz.prog W14 = .ok () W15 := r15
  obtain ⟨W16, r16, o16, e16⟩ := step o15 e15 (cmd_take 15) [109, 115, 101, 116] (by decide) (fnV 42)
  rw [put15] at o16
  have r16 : (Instr.mapUpdate 51 (.map (some w.heap.size)) (.string ⟨#[109, 115, 101, 116]⟩) (.agg #[.func (.func 42) #[] #[]])).run Tryz.prog W15 = .ok () W16 := r16
  obtain ⟨W17, r17, o17, e17⟩ := step o16 e16 (cmd_take 16) [109, 115, 101, 116, 110, 120] (by decide) (fnV 43)
  rw [put16] at o17
  have r17 : (Instr.mapUpdate 51 (.map (some w.heap.size)) (.string ⟨#[109, 115, 101, 116, 110, 120]⟩) (.agg #[.func (.func 43) #[] #[]])).run Tryz.prog W16 = .ok () W17 := r17
  obtain ⟨W18, r18, o18, e18⟩ := step o17 e17 (cmd_take 17) [112, 115, 101, 116, 101, 120] (by decide) (fnV 44)
  rw [put17] at o18
  have r18 : (Instr.mapUpdate 51 (.map (some w.heap.size)) (.string ⟨#[112, 115, 101, 116, 101, 120]⟩) (.agg #[.func (.func 44) #[] #[]])).run Tryz.prog W17 = .ok () W18 := r18
  obtain ⟨W19, r19, o19, e19⟩ := step o18 e18 (cmd_take 18) [115, 101, 116] (by decide) (fnV 45)
  rw [put18] at o19
  have r19 : (Instr.mapUpdate 51 (.map (some w.heap.size)) (.string ⟨#[115, 101, 116]⟩) (.agg #[.func (.func 45) #[] #[]])).run Tryz.prog W18 = .ok () W19 := r19
  obtain ⟨W20, r20, o20, e20⟩ := step o19 e19 (cmd_take 19) [115, 101, 116, 98, 105, 116] (by decide) (fnV 46)
  rw [put19] at o20
  have r20 : (Instr.mapUpdate 51 (.map (some w.heap.size)) (.string ⟨#[115, 101, 116, 98, 105, 116]⟩) (.agg #[.func (.func 46) #[] #[]])).run Tryz.prog W19 = .ok () W20 := r20
  obtain ⟨W21, r21, o21, e21⟩ := step o20 e20 (cmd_take 20) [115, 101, 116, 101, 120] (by decide) (fnV 47)
  rw [put20] at o21
  have r21 : (Instr.mapUpdate 51 (.map (some w.heap.size)) (.string ⟨#[115, 101, 116, 101, 120]⟩) (.agg #[.func (.func 47) #[] #[]])).run Tryz.prog W20 = .ok () W21 := r21
  obtain ⟨W22, r22, o22, e22⟩ := step o21 e21 (cmd_take 21) [115, 101, 116, 110, 120] (by decide) (fnV 48)
  rw [put21] at o22
  have r22 : (Instr.mapUpdate 51 (.map (some w.heap.size)) (.string ⟨#[115, 101, 116, 110, 120]⟩) (.agg #[.func (.func 48) #[] #[]])).run Tryz.prog W21 = .ok () W22 := r22
  obtain ⟨W23, r23, o23, e23⟩ := step o22 e22 (cmd_take 22) [115, 101, 116, 114, 97, 110, 103, 101] (by decide) (fnV 49)
  rw [put22] at o23
  have r23 : (Instr.mapUpdate 51 (.map (some w.heap.size)) (.string ⟨#[115, 101, 116, 114, 97, 110, 103, 101]⟩) (.agg #[.func (.func 49) #[] #[]])).run Tryz.prog W22 = .ok () W23 := r23
  obtain ⟨W24, r24, o24, e24⟩ := step o23 e23 (cmd_take 23) [115, 116, 114, 108, 101, 110] (by decide) (fnV 50)
  rw [put23] at o24
  have r24 : (Instr.mapUpdate 51 (.map (some w.heap.size)) (.string ⟨#[115, 116, 114, 108, 101, 110]⟩) (.agg #[.func (.func 50) #[] #[]])).run Tryz.prog W23 = .ok () W24 := r24
  have hfin : Below w.heap.size w W24 := (alb w mO).trans (e24.below (base := w.heap.size) (by simp) (fun k hk => by have hk : k = w.heap.size := hk; omega))
  have HF := hid_of hfin
  have HO := hid_of o24
  clear hfin o0 o1 o2 o3 o4 o5 o6 o7 o8 o9 o10 o11 o12 o13 o14 o15 o16 o17 o18 o19 o20 o21 o22 o23 o24 e0 e1 e2 e3 e4 e5 e6 e7 e8 e9 e10 e11 e12 e13 e14 e15 e16 e17 e18 e19 e20 e21 e22 e23 e24
  have hmm := @run_makeMap Tryz.prog
  go_enter Tryz.func14, Tryz.ntmps14
  go_wp2_with fail
  go_ret
  exact ⟨rfl, HO.out, HF.out⟩
end Go.Proofs.YtiofnocmibjepaaGreatDoor.QMap
end
