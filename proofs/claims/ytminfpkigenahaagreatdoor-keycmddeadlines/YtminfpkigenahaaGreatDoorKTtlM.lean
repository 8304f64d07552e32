/- What is told of a deadline: TTL and its likes. Contracts of the library, proved once over any program, laid at this program. SCAN of what is no cursor. -/
import Derived.Test.YtminfpkigenahaaGreatDoorParseM
import Derived.Deep.RegionHeld3
import Derived.Shelf.Strings.Builder1
import Derived.Shelf.Strings.Builder2
import Derived.Shelf.Small.Bits
import Derived.Shelf.Small.Wraps
import Derived.Shelf.Strings.BuilderF
import Derived.Shelf.Strings.BuilderK
import Derived.Shelf.Strconv.Atoi
import Derived.Shelf.Strconv.Itoa0
import Derived.Shelf.Strconv.Itoa1
import Derived.Shelf.LaysM
import Derived.Shelf.Strconv.Itoa2
import Derived.Shelf.Strconv.Itoa3
import Derived.Shelf.Strconv.AtoiErrFast
import Derived.Shelf.Strconv.ParseIntEmpty
import Derived.Shelf.Strconv.AtoiFail
import Derived.Shelf.Strconv.Clone
import Derived.Shelf.Strconv.SyntaxError
import Derived.Shelf.LaysC
import Derived.Shelf.Strconv.ToError
import Derived.Shelf.Strconv.AtoiErr
import Derived.Shelf.Strconv.ErrVar
import Derived.Shelf.Strconv.Lower
import Derived.Shelf.Strconv.ParseUint10
import Derived.Shelf.Strconv.ParseUint10Empty
import Derived.Shelf.Strconv.ParseUint10Any
import Derived.Shelf.Strconv.ParseInt10
import Derived.Shelf.Strconv.AtoiLong
import Derived.Shelf.Strconv.AtoiInnerAll
import Derived.Shelf.Strconv.RangeError
import Derived.Shelf.Strconv.ToErrorRange
import Derived.Shelf.Strconv.AtoiAll
import Derived.Shelf.Strconv.ErrVarAll
import Derived.Shelf.Sort.Plain
import Derived.Shelf.Strings.Prefix
import Derived.Shelf.Slices.Clone
import Derived.Shelf.Slices.CompactS
import Derived.Shelf.Slices.SearchI
import Derived.Shelf.Slices.Cells
import Derived.Shelf.Slices.In.SortNone
import Derived.Ground.SlgnProg
import Derived.Shelf.SlicesE.Clone
import Derived.Test.YtminfpkigenahaaGreatDoorProg
import Derived.Test.YtminfpkigenahaaGreatDoorKMvM
section
namespace Go.Proofs.YtminfpkigenahaaGreatDoor.KTtl
open Go.RowKit Go.Maps
open Go.Proofs.YtminfpkigenahaaGreatDoor.SpaceMath (wout withL lkp keys Ris toD)
open Go.Proofs.YtminfpkigenahaaGreatDoor.ValueMath (Vl chk small)
open Go.Proofs.YtminfpkigenahaaGreatDoor.Base (mk mk_list mk_size Gr hid_of SL)
open Go.Proofs.YtminfpkigenahaaGreatDoor.Turn
open Go.Proofs.YtminfpkigenahaaGreatDoor.Vals
open Go.Proofs.YtminfpkigenahaaGreatDoor.Check0 (Wel)
open Go.Proofs.YtminfpkigenahaaGreatDoor.SBase
open Go.Proofs.YtminfpkigenahaaGreatDoor.SFind
open Go.Proofs.YtminfpkigenahaaGreatDoor.SPut (vO)
open Go.Proofs.YtminfpkigenahaaGreatDoor.QBase
open Go.Proofs.YtminfpkigenahaaGreatDoor.KCmd
open Go.Proofs.YtminfpkigenahaaGreatDoor.Parse (Has)
set_option linter.unusedVariables false
set_option linter.unusedSimpArgs false
/-- what is told of a deadline, from start on, in steps -/
def dueT (o : Option En) (s st : Int) : Int := match o with
  | none => -2
  | some e => if e.due = 0 then -1 else Int.tdiv (e.due - s + st - 1) st
def ttlM (S : Sp) (now : Int) (k : Bs) (s st : Int) : Int := dueT (gt S now k) s st
theorem due_le {F X : Nat → Prop} {b : Nat} {w : World} {S : Sp} (h0 : SP F X b w S) (k : Bs) (now : Int) {e : En} (hg : gt S now k = some e) : 0 ≤ e.due ∧ e.due ≤ 9007199254740992 := by
  obtain ⟨FI, bm, bi, mv, L, s, h⟩ := h0
  have he := h.ent k
  rw [(gt_some hg).1] at he
  cases q : lkp L k with
  | none => rw [q] at he; exact absurd he (by simp [Two])
  | some v =>
    rw [q] at he
    exact EnAt.due he
section
variable {F X : Nat → Prop} {b : Nat} {w : World} {S : Sp}
set_option maxHeartbeats 4000000 in
set_option maxRecDepth 100000 in
theorem due_call (h : SP F X b w S) (now : Int) (hn : 0 ≤ now ∧ now ≤ 9007199254740992) {G : Nat → Prop} {a : Option Addr} {n c : Nat} {l : List Base.El} (hl : SL G w (.slice a n c) l) (hl0 : 0 < l.length) (hk : l[0].length ≤ 281474976710656) (s st : Int) (hs : 0 ≤ s ∧ s ≤ 9007199254740992) (hst : st = 1 ∨ st = 1000) :
    Calls Tryz.prog 78 #[cV b now a n c, kV s st] w fun e w' => e = .returned (rp 3 ⟨#[]⟩ (ttlM S now l[0] s st)) ∧ Dn F X b w w' S := by
  obtain ⟨rfl, hcs⟩ := sl_get hl
  obtain ⟨ga, oa, rfl, hc0⟩ := hcs 0 (by omega)
  rw [Nat.add_zero] at hc0
  have hga : ga < w.heap.size := Base.cell_lt hc0
  obtain ⟨W, hW⟩ : ∃ W, W = ((w.alloc (cO b now (some ⟨ga, oa, none⟩) l.length c)).alloc (kO s st)).alloc (rO 0 ⟨#[]⟩ 0 (.slice none 0 0)) := ⟨_, rfl⟩
  obtain ⟨bW, x0, x1, x2, sW⟩ := three_boxes w (cO b now (some ⟨ga, oa, none⟩) l.length c) (kO s st) (rO 0 ⟨#[]⟩ 0 (.slice none 0 0))
  rw [← hW] at bW x0 x1 x2 sW
  have HH := hid_of h
  have HB := hid_of bW
  have HX0 := hid_of x0
  have HX1 := hid_of x1
  have HX2 := hid_of x2
  have HSW := hid_of sW
  have HW := hid_of hW
  have t2 : KCmd.Tmp w W (w.heap.size + 2) := ⟨by omega, by rw [HSW.out]; omega⟩
  have H1 := hid_of (QBase.due_call ((h.below bW).below (Below.refl _ W).drew) l[0] hk now)
  have HC := hid_of fun (V : World) (n : Int) => count_call n V
  obtain ⟨o, ho⟩ : ∃ o, gt S now l[0] = o := ⟨_, rfl⟩
  have hdl : ∀ e, o = some e → 0 ≤ e.due ∧ e.due ≤ 9007199254740992 := fun e he => due_le h l[0] now (by rw [ho, he])
  have HS : Hid (∀ U, Below W.heap.size W U → U.cell? ⟨w.heap.size, 0, none⟩ = some (ptr b) ∧ U.cell? ⟨w.heap.size, 1, none⟩ = some (.int .i64 now) ∧ U.cell? ⟨w.heap.size, 2, none⟩ = some (.slice (some ⟨ga, oa, none⟩) l.length c) ∧ U.cell? ⟨ga, oa, none⟩ = some (.string (mk l[0]))) := hid_of fun U hU => by
    have y0 := (hU.block _ (lt_of HX0.out)).trans HX0.out
    obtain ⟨⟨c0, c1, c2⟩, -⟩ := box3 y0
    exact ⟨c0, c1, c2, ((hU.cell (p := ⟨ga, oa, none⟩) (Nat.lt_of_lt_of_le hga HB.out.size)).trans (HB.out.cell (p := ⟨ga, oa, none⟩) hga)).trans hc0⟩
  have HK : Hid (∀ U, Below W.heap.size W U → U.cell? ⟨w.heap.size + 1, 0, none⟩ = some (.int .i64 s) ∧ U.cell? ⟨w.heap.size + 1, 1, none⟩ = some (.int .i64 st)) := hid_of fun U hU => (box2 ((hU.block _ (lt_of HX1.out)).trans HX1.out)).1
  unfold dueV at H1
  unfold ttlM
  rw [ho] at H1 ⊢
  obtain ⟨R, hR⟩ : ∃ R : Int, R = dueT o s st := ⟨_, rfl⟩
  rw [← hR]
  have HR := hid_of hR
  clear hR
  generalize mk l[0] = KK at *
  have s0 := HS.out W.drew (Below.refl _ W).drew
  clear hW bW x0 x1 x2 sW h ho hcs hc0 hl
  unfold kV
  go_enter Tryz.func78, Tryz.ntmps78
  go_wp2_with fail
  rw [← HW.out]
  go_region_held3 (fun U => U.cell? ⟨w.heap.size, 0, none⟩ = some (ptr b) ∧ U.cell? ⟨w.heap.size, 1, none⟩ = some (.int .i64 now) ∧ U.cell? ⟨w.heap.size, 2, none⟩ = some (.slice (some ⟨ga, oa, none⟩) l.length c) ∧ U.cell? ⟨ga, oa, none⟩ = some (.string KK)) (first | with_reducible exact s0 | with_reducible exact s1) (first
    | (go_at_call 83; refine H1.out.mono ?_; rintro e w1 ⟨rfl, b1⟩; have B1 := hid_of (FRow.bel (Below.refl _ W).drew b1 (Nat.le_refl _)); have s1 := HS.out w1 B1.out; clear b1))
  cases o with
  | none =>
    go_wp2_with fail
    refine (HC.out _ _).mono ?_
    rintro e w2 ⟨rfl, b2⟩
    have D2 := Dn.of (sp_wide HH.out HB.out) (FRow.bel B1.out b2 (Nat.le_refl _))
    have z2 := (dn_block HH.out HB.out D2 t2).trans HX2.out
    have hz := fin4_at z2 (.int .i64 3) (.string ⟨#[]⟩) (.int .i64 (-2)) (.slice none 0 0)
    have hdn := dn_tmp HH.out HB.out D2 (ev_fin4 t2 (.int .i64 3) (.string ⟨#[]⟩) (.int .i64 (-2)) (.slice none 0 0))
    unfold fin4 at hz hdn
    obtain ⟨⟨v0, v1, v2, v3⟩, fv⟩ := box4 z2
    have fv0 := fv 0
    have fv1 := fv 1
    have fv2 := fv 2
    have fv3 := fv 3
    clear fv z2
    go_wp2_with fail
    obtain ⟨⟨g0, g1, g2, g3⟩, -⟩ := box4 hz
    exact bodyPost_ret (v := (rp 3 ⟨#[]⟩ (-2))) (by simp [results, Tryz.results78, go_sem, g0, g1, g2, g3]) rfl ⟨by rw [HR.out]; rfl, hdn⟩
  | some e =>
    obtain ⟨hd0, hd1⟩ := hdl e rfl
    clear hdl
    simp only [Option.map_some, Option.getD_some, Option.isSome_some]
    obtain ⟨d, hd⟩ : ∃ d, d = e.due := ⟨_, rfl⟩
    have HR2 : Hid (R = if d = 0 then -1 else Int.tdiv (d - s + st - 1) st) := hid_of (by rw [HR.out, hd]; rfl)
    rw [← hd] at hd0 hd1
    rw [← hd]
    clear hd HR
    by_cases hz0 : d = 0
    · subst hz0
      have hR2 : R = -1 := by rw [HR2.out, if_pos rfl]
      go_wp2_with fail
      refine (HC.out _ _).mono ?_
      rintro e w2 ⟨rfl, b2⟩
      have D2 := Dn.of (sp_wide HH.out HB.out) (FRow.bel B1.out b2 (Nat.le_refl _))
      have z2 := (dn_block HH.out HB.out D2 t2).trans HX2.out
      have hz := fin4_at z2 (.int .i64 3) (.string ⟨#[]⟩) (.int .i64 (-1)) (.slice none 0 0)
      have hdn := dn_tmp HH.out HB.out D2 (ev_fin4 t2 (.int .i64 3) (.string ⟨#[]⟩) (.int .i64 (-1)) (.slice none 0 0))
      unfold fin4 at hz hdn
      obtain ⟨⟨v0, v1, v2, v3⟩, fv⟩ := box4 z2
      have fv0 := fv 0
      have fv1 := fv 1
      have fv2 := fv 2
      have fv3 := fv 3
      clear fv z2
      go_wp2_with fail
      obtain ⟨⟨g0, g1, g2, g3⟩, -⟩ := box4 hz
      exact bodyPost_ret (v := (rp 3 ⟨#[]⟩ (-1))) (by simp [results, Tryz.results78, go_sem, g0, g1, g2, g3]) rfl ⟨by rw [hR2], hdn⟩
    · have hR2 : R = Int.tdiv (d - s + st - 1) st := by rw [HR2.out, if_neg hz0]
      have hzb : (d == 0) = false := by simpa using hz0
      obtain ⟨k0, k1⟩ := HK.out w1 B1.out
      have hst0 : st ≠ 0 := by omega
      have e1 : IntKind.i64.wrap (d - s) = d - s := IntWalk.i64_in _ (by omega)
      have e2 : IntKind.i64.wrap (d - s + st) = d - s + st := IntWalk.i64_in _ (by omega)
      have e3 : IntKind.i64.wrap (d - s + st - 1) = d - s + st - 1 := IntWalk.i64_in _ (by omega)
      go_wp2_with fail
      refine (HC.out _ _).mono ?_
      rintro e w2 ⟨rfl, b2⟩
      have D2 := Dn.of (sp_wide HH.out HB.out) (FRow.bel B1.out b2 (Nat.le_refl _))
      have z2 := (dn_block HH.out HB.out D2 t2).trans HX2.out
      have hz := fin4_at z2 (.int .i64 3) (.string ⟨#[]⟩) (.int .i64 ((d - s + st - 1).tdiv st)) (.slice none 0 0)
      have hdn := dn_tmp HH.out HB.out D2 (ev_fin4 t2 (.int .i64 3) (.string ⟨#[]⟩) (.int .i64 ((d - s + st - 1).tdiv st)) (.slice none 0 0))
      unfold fin4 at hz hdn
      obtain ⟨⟨v0, v1, v2, v3⟩, fv⟩ := box4 z2
      have fv0 := fv 0
      have fv1 := fv 1
      have fv2 := fv 2
      have fv3 := fv 3
      clear fv z2
      go_wp2_with fail
      obtain ⟨⟨g0, g1, g2, g3⟩, -⟩ := box4 hz
      exact bodyPost_ret (v := (rp 3 ⟨#[]⟩ ((d - s + st - 1).tdiv st))) (by simp [results, Tryz.results78, go_sem, g0, g1, g2, g3]) rfl ⟨by rw [hR2], hdn⟩
set_option maxHeartbeats 4000000 in
set_option maxRecDepth 100000 in
theorem leftInSeconds_call (h : SP F X b w S) (now : Int) (hn : 0 ≤ now ∧ now ≤ 9007199254740992) {G : Nat → Prop} {a : Option Addr} {n c : Nat} {l : List Base.El} (hl : SL G w (.slice a n c) l) (hl0 : 0 < l.length) (hk : l[0].length ≤ 281474976710656) :
    Calls Tryz.prog 58 #[cV b now a n c] w fun e w' => e = .returned (rp 3 ⟨#[]⟩ (ttlM S now l[0] now 1000)) ∧ Dn F X b w w' S := by
  obtain ⟨rfl, hcs⟩ := sl_get hl
  obtain ⟨W, hW⟩ : ∃ W, W = (w.alloc (cO b now a l.length c)).alloc (rO 0 ⟨#[]⟩ 0 (.slice none 0 0)) := ⟨_, rfl⟩
  obtain ⟨bW, x0, x1, sW⟩ := two_boxes w (cO b now a l.length c) (rO 0 ⟨#[]⟩ 0 (.slice none 0 0)) ⟨_, _, rfl⟩
  rw [← hW] at bW x0 x1 sW
  have HH := hid_of h
  have HB := hid_of bW
  have HX0 := hid_of x0
  have HX1 := hid_of x1
  have HSW := hid_of sW
  have HW := hid_of hW
  have t0 : KCmd.Tmp w W w.heap.size := ⟨Nat.le_refl _, by rw [HSW.out]; omega⟩
  have t1 : KCmd.Tmp w W (w.heap.size + 1) := ⟨by omega, by rw [HSW.out]; omega⟩
  have H1 := hid_of (due_call (sp_wide h bW) now hn (hl.below bW) hl0 hk now 1000 ⟨by first | exact hn.1 | decide, by first | exact hn.2 | decide⟩ (by first | exact .inl rfl | exact .inr rfl))
  obtain ⟨R, hR⟩ : ∃ R, R = ttlM S now l[0] now 1000 := ⟨_, rfl⟩
  rw [← hR] at H1
  rw [← hR]
  obtain ⟨⟨c0, c1, c2⟩, -⟩ := box3 x0
  clear hW bW x0 x1 sW h hcs hl hR
  unfold kV at H1
  go_enter Tryz.func58, Tryz.ntmps58
  go_wp2_with fail
  rw [← HW.out]
  go_wp2_with fail
  refine H1.out.mono ?_
  rintro e w2 ⟨rfl, D2⟩
  have z2 := (dn_block HH.out HB.out D2 t1).trans HX1.out
  have hz := fin4_at z2 (.int .i64 3) (.string ⟨#[]⟩) (.int .i64 R) (.slice none 0 0)
  have hdn := dn_tmp HH.out HB.out D2 (ev_fin4 t1 (.int .i64 3) (.string ⟨#[]⟩) (.int .i64 R) (.slice none 0 0))
  unfold fin4 at hz hdn
  obtain ⟨⟨v0, v1, v2, v3⟩, fv⟩ := box4 z2
  have fv0 := fv 0
  have fv1 := fv 1
  have fv2 := fv 2
  have fv3 := fv 3
  clear fv z2
  go_wp2_with fail
  obtain ⟨⟨g0, g1, g2, g3⟩, -⟩ := box4 hz
  exact bodyPost_ret (v := (rp 3 ⟨#[]⟩ R)) (by simp [results, Tryz.results58, go_sem, g0, g1, g2, g3]) rfl ⟨rfl, hdn⟩
set_option maxHeartbeats 4000000 in
set_option maxRecDepth 100000 in
theorem leftInTicks_call (h : SP F X b w S) (now : Int) (hn : 0 ≤ now ∧ now ≤ 9007199254740992) {G : Nat → Prop} {a : Option Addr} {n c : Nat} {l : List Base.El} (hl : SL G w (.slice a n c) l) (hl0 : 0 < l.length) (hk : l[0].length ≤ 281474976710656) :
    Calls Tryz.prog 53 #[cV b now a n c] w fun e w' => e = .returned (rp 3 ⟨#[]⟩ (ttlM S now l[0] now 1)) ∧ Dn F X b w w' S := by
  obtain ⟨rfl, hcs⟩ := sl_get hl
  obtain ⟨W, hW⟩ : ∃ W, W = (w.alloc (cO b now a l.length c)).alloc (rO 0 ⟨#[]⟩ 0 (.slice none 0 0)) := ⟨_, rfl⟩
  obtain ⟨bW, x0, x1, sW⟩ := two_boxes w (cO b now a l.length c) (rO 0 ⟨#[]⟩ 0 (.slice none 0 0)) ⟨_, _, rfl⟩
  rw [← hW] at bW x0 x1 sW
  have HH := hid_of h
  have HB := hid_of bW
  have HX0 := hid_of x0
  have HX1 := hid_of x1
  have HSW := hid_of sW
  have HW := hid_of hW
  have t0 : KCmd.Tmp w W w.heap.size := ⟨Nat.le_refl _, by rw [HSW.out]; omega⟩
  have t1 : KCmd.Tmp w W (w.heap.size + 1) := ⟨by omega, by rw [HSW.out]; omega⟩
  have H1 := hid_of (due_call (sp_wide h bW) now hn (hl.below bW) hl0 hk now 1 ⟨by first | exact hn.1 | decide, by first | exact hn.2 | decide⟩ (by first | exact .inl rfl | exact .inr rfl))
  obtain ⟨R, hR⟩ : ∃ R, R = ttlM S now l[0] now 1 := ⟨_, rfl⟩
  rw [← hR] at H1
  rw [← hR]
  obtain ⟨⟨c0, c1, c2⟩, -⟩ := box3 x0
  clear hW bW x0 x1 sW h hcs hl hR
  unfold kV at H1
  go_enter Tryz.func53, Tryz.ntmps53
  go_wp2_with fail
  rw [← HW.out]
  go_wp2_with fail
  refine H1.out.mono ?_
  rintro e w2 ⟨rfl, D2⟩
  have z2 := (dn_block HH.out HB.out D2 t1).trans HX1.out
  have hz := fin4_at z2 (.int .i64 3) (.string ⟨#[]⟩) (.int .i64 R) (.slice none 0 0)
  have hdn := dn_tmp HH.out HB.out D2 (ev_fin4 t1 (.int .i64 3) (.string ⟨#[]⟩) (.int .i64 R) (.slice none 0 0))
  unfold fin4 at hz hdn
  obtain ⟨⟨v0, v1, v2, v3⟩, fv⟩ := box4 z2
  have fv0 := fv 0
  have fv1 := fv 1
  have fv2 := fv 2
  have fv3 := fv 3
  clear fv z2
  go_wp2_with fail
  obtain ⟨⟨g0, g1, g2, g3⟩, -⟩ := box4 hz
  exact bodyPost_ret (v := (rp 3 ⟨#[]⟩ R)) (by simp [results, Tryz.results53, go_sem, g0, g1, g2, g3]) rfl ⟨rfl, hdn⟩
set_option maxHeartbeats 4000000 in
set_option maxRecDepth 100000 in
theorem dueInSeconds_call (h : SP F X b w S) (now : Int) (hn : 0 ≤ now ∧ now ≤ 9007199254740992) {G : Nat → Prop} {a : Option Addr} {n c : Nat} {l : List Base.El} (hl : SL G w (.slice a n c) l) (hl0 : 0 < l.length) (hk : l[0].length ≤ 281474976710656) :
    Calls Tryz.prog 45 #[cV b now a n c] w fun e w' => e = .returned (rp 3 ⟨#[]⟩ (ttlM S now l[0] 0 1000)) ∧ Dn F X b w w' S := by
  obtain ⟨rfl, hcs⟩ := sl_get hl
  obtain ⟨W, hW⟩ : ∃ W, W = (w.alloc (cO b now a l.length c)).alloc (rO 0 ⟨#[]⟩ 0 (.slice none 0 0)) := ⟨_, rfl⟩
  obtain ⟨bW, x0, x1, sW⟩ := two_boxes w (cO b now a l.length c) (rO 0 ⟨#[]⟩ 0 (.slice none 0 0)) ⟨_, _, rfl⟩
  rw [← hW] at bW x0 x1 sW
  have HH := hid_of h
  have HB := hid_of bW
  have HX0 := hid_of x0
  have HX1 := hid_of x1
  have HSW := hid_of sW
  have HW := hid_of hW
  have t0 : KCmd.Tmp w W w.heap.size := ⟨Nat.le_refl _, by rw [HSW.out]; omega⟩
  have t1 : KCmd.Tmp w W (w.heap.size + 1) := ⟨by omega, by rw [HSW.out]; omega⟩
  have H1 := hid_of (due_call (sp_wide h bW) now hn (hl.below bW) hl0 hk 0 1000 ⟨by first | exact hn.1 | decide, by first | exact hn.2 | decide⟩ (by first | exact .inl rfl | exact .inr rfl))
  obtain ⟨R, hR⟩ : ∃ R, R = ttlM S now l[0] 0 1000 := ⟨_, rfl⟩
  rw [← hR] at H1
  rw [← hR]
  obtain ⟨⟨c0, c1, c2⟩, -⟩ := box3 x0
  clear hW bW x0 x1 sW h hcs hl hR
  unfold kV at H1
  go_enter Tryz.func45, Tryz.ntmps45
  go_wp2_with fail
  rw [← HW.out]
  go_wp2_with fail
  refine H1.out.mono ?_
  rintro e w2 ⟨rfl, D2⟩
  have z2 := (dn_block HH.out HB.out D2 t1).trans HX1.out
  have hz := fin4_at z2 (.int .i64 3) (.string ⟨#[]⟩) (.int .i64 R) (.slice none 0 0)
  have hdn := dn_tmp HH.out HB.out D2 (ev_fin4 t1 (.int .i64 3) (.string ⟨#[]⟩) (.int .i64 R) (.slice none 0 0))
  unfold fin4 at hz hdn
  obtain ⟨⟨v0, v1, v2, v3⟩, fv⟩ := box4 z2
  have fv0 := fv 0
  have fv1 := fv 1
  have fv2 := fv 2
  have fv3 := fv 3
  clear fv z2
  go_wp2_with fail
  obtain ⟨⟨g0, g1, g2, g3⟩, -⟩ := box4 hz
  exact bodyPost_ret (v := (rp 3 ⟨#[]⟩ R)) (by simp [results, Tryz.results45, go_sem, g0, g1, g2, g3]) rfl ⟨rfl, hdn⟩
set_option maxHeartbeats 4000000 in
set_option maxRecDepth 100000 in
theorem dueInTicks_call (h : SP F X b w S) (now : Int) (hn : 0 ≤ now ∧ now ≤ 9007199254740992) {G : Nat → Prop} {a : Option Addr} {n c : Nat} {l : List Base.El} (hl : SL G w (.slice a n c) l) (hl0 : 0 < l.length) (hk : l[0].length ≤ 281474976710656) :
    Calls Tryz.prog 51 #[cV b now a n c] w fun e w' => e = .returned (rp 3 ⟨#[]⟩ (ttlM S now l[0] 0 1)) ∧ Dn F X b w w' S := by
  obtain ⟨rfl, hcs⟩ := sl_get hl
  obtain ⟨W, hW⟩ : ∃ W, W = (w.alloc (cO b now a l.length c)).alloc (rO 0 ⟨#[]⟩ 0 (.slice none 0 0)) := ⟨_, rfl⟩
  obtain ⟨bW, x0, x1, sW⟩ := two_boxes w (cO b now a l.length c) (rO 0 ⟨#[]⟩ 0 (.slice none 0 0)) ⟨_, _, rfl⟩
  rw [← hW] at bW x0 x1 sW
  have HH := hid_of h
  have HB := hid_of bW
  have HX0 := hid_of x0
  have HX1 := hid_of x1
  have HSW := hid_of sW
  have HW := hid_of hW
  have t0 : KCmd.Tmp w W w.heap.size := ⟨Nat.le_refl _, by rw [HSW.out]; omega⟩
  have t1 : KCmd.Tmp w W (w.heap.size + 1) := ⟨by omega, by rw [HSW.out]; omega⟩
  have H1 := hid_of (due_call (sp_wide h bW) now hn (hl.below bW) hl0 hk 0 1 ⟨by first | exact hn.1 | decide, by first | exact hn.2 | decide⟩ (by first | exact .inl rfl | exact .inr rfl))
  obtain ⟨R, hR⟩ : ∃ R, R = ttlM S now l[0] 0 1 := ⟨_, rfl⟩
  rw [← hR] at H1
  rw [← hR]
  obtain ⟨⟨c0, c1, c2⟩, -⟩ := box3 x0
  clear hW bW x0 x1 sW h hcs hl hR
  unfold kV at H1
  go_enter Tryz.func51, Tryz.ntmps51
  go_wp2_with fail
  rw [← HW.out]
  go_wp2_with fail
  refine H1.out.mono ?_
  rintro e w2 ⟨rfl, D2⟩
  have z2 := (dn_block HH.out HB.out D2 t1).trans HX1.out
  have hz := fin4_at z2 (.int .i64 3) (.string ⟨#[]⟩) (.int .i64 R) (.slice none 0 0)
  have hdn := dn_tmp HH.out HB.out D2 (ev_fin4 t1 (.int .i64 3) (.string ⟨#[]⟩) (.int .i64 R) (.slice none 0 0))
  unfold fin4 at hz hdn
  obtain ⟨⟨v0, v1, v2, v3⟩, fv⟩ := box4 z2
  have fv0 := fv 0
  have fv1 := fv 1
  have fv2 := fv 2
  have fv3 := fv 3
  clear fv z2
  go_wp2_with fail
  obtain ⟨⟨g0, g1, g2, g3⟩, -⟩ := box4 hz
  exact bodyPost_ret (v := (rp 3 ⟨#[]⟩ R)) (by simp [results, Tryz.results51, go_sem, g0, g1, g2, g3]) rfl ⟨rfl, hdn⟩
end
end Go.Proofs.YtminfpkigenahaaGreatDoor.KTtl
end
section
namespace Go.Proofs
open Go.Shelf
def Tryz.lays99_ren : Go.Shelf.Ren := ⟨fun | 99 => 91 | 206 => 113 | n => n, fun | 9 => 9 | 4 => 4 | 3 => 3 | n => n, fun | n => n⟩
theorem Tryz.lays99 : Go.Proofs.Lays.n99 Tryz.prog Tryz.lays99_ren := {
  mixed := by kernel_rfl
  f99 := Tryz.func91.trans (congrArg some (by kernel_rfl))
  f206 := Tryz.func113.trans (congrArg some (by kernel_rfl))
  t3 := Tryz.underlying3
  a3 := Tryz.isAgg3
  z3 := Tryz.sizeOf3
  v3 := Tryz.zeroValue3
  t4 := Tryz.underlying4
  a4 := Tryz.isAgg4
  z4 := Tryz.sizeOf4
  v4 := Tryz.zeroValue4
  t9 := Tryz.underlying9
  a9 := Tryz.isAgg9
  z9 := Tryz.sizeOf9
  v9 := Tryz.zeroValue9 }
open Go.RowKit Go.Lib in
theorem Tryz.strings_HasPrefix (s p : ByteArray) (w : World) :
    Calls Tryz.prog 91 #[.string s, .string p] w fun e w' => e = .returned (.bool (Lib.hasPrefix s.data.toList p.data.toList)) ∧ w' = w := Any.strings_HasPrefix Tryz.lays99 s p w
end Go.Proofs
end
section
namespace Go.Proofs.YtminfpkigenahaaGreatDoor.KScan
open Go.RowKit Go.Maps
open Go.Proofs.YtminfpkigenahaaGreatDoor.SpaceMath (wout withL lkp keys Ris toD)
open Go.Proofs.YtminfpkigenahaaGreatDoor.ValueMath (Vl chk small)
open Go.Proofs.YtminfpkigenahaaGreatDoor.Base (mk mk_list mk_size Gr hid_of SL)
open Go.Proofs.YtminfpkigenahaaGreatDoor.Turn
open Go.Proofs.YtminfpkigenahaaGreatDoor.Vals
open Go.Proofs.YtminfpkigenahaaGreatDoor.Check0 (Wel)
open Go.Proofs.YtminfpkigenahaaGreatDoor.SBase
open Go.Proofs.YtminfpkigenahaaGreatDoor.SFind
open Go.Proofs.YtminfpkigenahaaGreatDoor.SPut (vO)
open Go.Proofs.YtminfpkigenahaaGreatDoor.QBase
open Go.Proofs.YtminfpkigenahaaGreatDoor.KCmd
open Go.Proofs.YtminfpkigenahaaGreatDoor.Parse (Has)
set_option linter.unusedVariables false
set_option linter.unusedSimpArgs false
open Go.Proofs.YtminfpkigenahaaGreatDoor.KEx
open Go.Proofs.YtminfpkigenahaaGreatDoor.KMv
section
variable {F X : Nat → Prop} {b : Nat} {w : World} {S : Sp}
set_option maxHeartbeats 4000000 in
set_option maxRecDepth 100000 in
theorem scan_no (h : SP F X b w S) (now : Int) {G : Nat → Prop} {a : Option Addr} {n c : Nat} {l : List Base.El} (hl : SL G w (.slice a n c) l) (hl0 : 0 < l.length) (hz : ((mk l[0]).toList == [48]) = false) (hp : Lib.hasPrefix (mk l[0]).data.toList [62] = false) :
    Calls Tryz.prog 57 #[cV b now a n c] w fun e w' => e = .returned (rp 2 curB 0) ∧ Dn F X b w w' S := by
  obtain ⟨rfl, hcs⟩ := sl_get hl
  obtain ⟨ga, oa, rfl, hc0⟩ := hcs 0 (by omega)
  rw [Nat.add_zero] at hc0
  have hga : ga < w.heap.size := Base.cell_lt hc0
  obtain ⟨W, hW⟩ : ∃ W, W = (w.alloc (cO b now (some ⟨ga, oa, none⟩) l.length c)).alloc (rO 0 ⟨#[]⟩ 0 (.slice none 0 0)) := ⟨_, rfl⟩
  obtain ⟨bW, x0, x1, sW⟩ := two_boxes w (cO b now (some ⟨ga, oa, none⟩) l.length c) (rO 0 ⟨#[]⟩ 0 (.slice none 0 0)) ⟨_, _, rfl⟩
  rw [← hW] at bW x0 x1 sW
  have HH := hid_of h
  have HB := hid_of bW
  have HX0 := hid_of x0
  have HX1 := hid_of x1
  have HSW := hid_of sW
  have HW := hid_of hW
  have t0 : KCmd.Tmp w W w.heap.size := ⟨Nat.le_refl _, by rw [HSW.out]; omega⟩
  have t1 : KCmd.Tmp w W (w.heap.size + 1) := ⟨by omega, by rw [HSW.out]; omega⟩
  have HR := hid_of fun (V : World) => refused_call curB V
  have HP := hid_of fun (V : World) => Tryz.strings_HasPrefix (mk l[0]) ⟨#[62]⟩ V
  have hp' : Lib.hasPrefix (mk l[0]).data.toList (⟨#[62]⟩ : ByteArray).data.toList = false := hp
  rw [hp'] at HP
  obtain ⟨⟨c0, c1, c2⟩, -⟩ := box3 x0
  have cw0 := (bW.cell (p := ⟨ga, oa, none⟩) hga).trans hc0
  have hlb0 : (0 : Int) < (l.length : Int) := by omega
  have cx0 := cw0
  rw [HW.out] at cx0
  unfold cO rO at cx0
  obtain ⟨CB, hCB⟩ : ∃ CB, CB = curB := ⟨_, rfl⟩
  unfold curB at HR hCB ⊢
  clear hW bW x0 x1 sW h hcs hl hc0 hp hp' hCB CB
  generalize mk l[0] = KK at *
  go_enter Tryz.func57, Tryz.ntmps57
  go_wp2_with fail
  rw [← HW.out]
  go_wp2_with fail
  refine (HP.out _).mono ?_
  rintro e w2 ⟨rfl, rfl⟩
  go_wp2_with fail
  refine (HR.out _).mono ?_
  rintro e w3 ⟨rfl, b3⟩
  have D2 := Dn.of (sp_wide HH.out HB.out) b3
  have z2 := (dn_block HH.out HB.out D2 t1).trans HX1.out
  have hz := fin4_at z2 (.int .i64 2) (.string ⟨#[69, 82, 82, 32, 116, 104, 101, 32, 99, 117, 114, 115, 111, 114, 32, 109, 97, 121, 32, 110, 111, 116, 32, 98, 101]⟩) (.int .i64 0) (.slice none 0 0)
  have hdn := dn_tmp HH.out HB.out D2 (ev_fin4 t1 (.int .i64 2) (.string ⟨#[69, 82, 82, 32, 116, 104, 101, 32, 99, 117, 114, 115, 111, 114, 32, 109, 97, 121, 32, 110, 111, 116, 32, 98, 101]⟩) (.int .i64 0) (.slice none 0 0))
  unfold fin4 at hz hdn
  obtain ⟨⟨v0, v1, v2, v3⟩, fv⟩ := box4 z2
  have fv0 := fv 0
  have fv1 := fv 1
  have fv2 := fv 2
  have fv3 := fv 3
  clear fv z2
  go_wp2_with fail
  obtain ⟨⟨g0, g1, g2, g3⟩, -⟩ := box4 hz
  exact bodyPost_ret (v := (rp 2 ⟨#[69, 82, 82, 32, 116, 104, 101, 32, 99, 117, 114, 115, 111, 114, 32, 109, 97, 121, 32, 110, 111, 116, 32, 98, 101]⟩ 0)) (by simp [results, Tryz.results57, go_sem, g0, g1, g2, g3]) rfl ⟨rfl, hdn⟩
end
end Go.Proofs.YtminfpkigenahaaGreatDoor.KScan
end
