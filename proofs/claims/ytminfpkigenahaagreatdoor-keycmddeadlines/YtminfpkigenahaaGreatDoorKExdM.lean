/- EXPIRE: its four ends. EXPIRE and its likes over expire. -/
import Derived.Test.YtminfpkigenahaaGreatDoorKExpM
section
namespace Go.Proofs.YtminfpkigenahaaGreatDoor.KExd
open Go.RowKit Go.Maps
open Go.Proofs.YtminfpkigenahaaGreatDoor.SpaceMath (wout withL lkp keys Ris toD)
open Go.Proofs.YtminfpkigenahaaGreatDoor.ValueMath (Vl chk small)
open Go.Proofs.YtminfpkigenahaaGreatDoor.Base (mk mk_list mk_size Gr hid_of SL)
open Go.Proofs.YtminfpkigenahaaGreatDoor.Turn
open Go.Proofs.YtminfpkigenahaaGreatDoor.Vals
open Go.Proofs.YtminfpkigenahaaGreatDoor.Check0 (Wel)
open Go.Proofs.YtminfpkigenahaaGreatDoor.SBase
open Go.Proofs.YtminfpkigenahaaGreatDoor.SFind
open Go.Proofs.YtminfpkigenahaaGreatDoor.SPut (vO)
open Go.Proofs.YtminfpkigenahaaGreatDoor.QBase
open Go.Proofs.YtminfpkigenahaaGreatDoor.KCmd
open Go.Proofs.YtminfpkigenahaaGreatDoor.Parse (Has)
set_option linter.unusedVariables false
set_option linter.unusedSimpArgs false
open Go.Proofs.YtminfpkigenahaaGreatDoor.KEx
open Go.Proofs.YtminfpkigenahaaGreatDoor.KMv
open Go.Proofs.YtminfpkigenahaaGreatDoor.KExp
open Go.Proofs.YtminfpkigenahaaGreatDoor.TextMath
open Go.Proofs.YtminfpkigenahaaGreatDoor.Low (low)
set_option maxHeartbeats 4000000 in
set_option maxRecDepth 100000 in
theorem deadline_no (T : ByteArray) (hT : T.size ≤ 140737488351232) (w : World) (hh : Has w) (hp : prs T.data.toList = none) (s st : Int) :
    Calls Tryz.prog 106 #[kV s st, .string T] w fun e w' => e = .returned (.tuple #[.int .i64 0, .string numB]) ∧ Below w.heap.size w w' := by
  obtain ⟨W, hW⟩ : ∃ W, W = w.alloc (kO s st) := ⟨_, rfl⟩
  obtain ⟨bW, x0, sW⟩ := one_box w (kO s st)
  rw [← hW] at bW x0 sW
  have H1 := hid_of (number_call T hT W (hh.later bW))
  rw [hp] at H1
  have HB := hid_of bW
  have HW := hid_of hW
  simp only [Option.getD_none, Option.isSome_none, Bool.false_eq_true, if_false] at H1
  have hq : numB.toList.isEmpty = false := (isE numB numB.data.toList rfl).trans rfl
  obtain ⟨NB, hNB⟩ : ∃ NB, NB = numB := ⟨_, rfl⟩
  rw [← hNB] at H1 hq
  rw [← hNB]
  clear hW bW x0 sW hh hp hT hNB
  unfold kV
  go_enter Tryz.func106, Tryz.ntmps106
  go_wp2_with fail
  rw [← HW.out]
  go_wp2_with fail
  refine H1.out.mono ?_
  rintro e w1 ⟨rfl, b1⟩
  have B1 := hid_of (FRow.bel HB.out b1 (Nat.le_refl _))
  clear b1
  go_wp2_with fail
  go_ret2
  exact ⟨rfl, B1.out⟩
set_option maxHeartbeats 4000000 in
set_option maxRecDepth 100000 in
theorem deadline_ok (T : ByteArray) (hT : T.size ≤ 140737488351232) (w : World) (hh : Has w) {n : Int} (hp : prs T.data.toList = some n) (s st : Int) (hs : 0 ≤ s ∧ s ≤ 9007199254740992) (hst : st = 1 ∨ st = 1000) (hn0 : 0 ≤ n) (hn : n ≤ Int.tdiv (9007199254740992 - s) st) (hd : s + n * st ≤ 9007199254740992) :
    Calls Tryz.prog 106 #[kV s st, .string T] w fun e w' => e = .returned (.tuple #[.int .i64 (s + n * st), .string ⟨#[]⟩]) ∧ Below w.heap.size w w' := by
  obtain ⟨W, hW⟩ : ∃ W, W = w.alloc (kO s st) := ⟨_, rfl⟩
  obtain ⟨bW, x0, sW⟩ := one_box w (kO s st)
  rw [← hW] at bW x0 sW
  have H1 := hid_of (number_call T hT W (hh.later bW))
  rw [hp] at H1
  have HB := hid_of bW
  have HW := hid_of hW
  have HX0 := hid_of x0
  simp only [Option.getD_some, Option.isSome_some, if_true] at H1
  have e1 : IntKind.i64.wrap (9007199254740992 - s) = 9007199254740992 - s := IntWalk.i64_in _ (by omega)
  have hnst : 0 ≤ n * st ∧ n * st ≤ 9007199254740992 := by
    rcases hst with rfl | rfl <;> omega
  have e2 : max n (-9007199254740992) = n := by omega
  have e3 : IntKind.i64.wrap (n * st) = n * st := IntWalk.i64_in _ (by omega)
  have e4 : IntKind.i64.wrap (s + n * st) = s + n * st := IntWalk.i64_in _ (by omega)
  have hst0 : st ≠ 0 := by omega
  have hdv : Int.tdiv (9007199254740992 - s) st = (9007199254740992 - s) / st := Int.tdiv_eq_ediv_of_nonneg (by omega)
  rw [hdv] at hn
  have hng2 : ¬ (9007199254740992 - s) / st < n := by omega
  have hqb : 0 ≤ (9007199254740992 - s) / st ∧ (9007199254740992 - s) / st ≤ 9007199254740992 := by
    rcases hst with rfl | rfl <;> omega
  have e5 : IntKind.i64.wrap ((9007199254740992 - s) / st) = (9007199254740992 - s) / st := IntWalk.i64_in _ (by omega)
  have hng3 : decide ((9007199254740992 - s) / st < n) = false := by simp [hng2]
  clear hW bW x0 sW hh hp hT
  unfold kV
  go_enter Tryz.func106, Tryz.ntmps106
  go_wp2_with fail
  rw [← HW.out]
  go_wp2_with fail
  refine H1.out.mono ?_
  rintro e w1 ⟨rfl, b1⟩
  have B1 := hid_of (FRow.bel HB.out b1 (Nat.le_refl _))
  obtain ⟨⟨k0, k1⟩, -⟩ := box2 ((b1.block _ (lt_of HX0.out)).trans HX0.out)
  clear b1
  go_wp2_with fail
  go_ret2
  exact ⟨rfl, B1.out⟩
section
variable {F X : Nat → Prop} {b : Nat} {w : World} {S : Sp}
set_option maxHeartbeats 4000000 in
set_option maxRecDepth 100000 in
theorem expire_num (h : SP F X b w S) (hh : Has w) (now : Int) (hnow : 0 ≤ now ∧ now ≤ 9007199254740992) {G : Nat → Prop} {a : Option Addr} {n c : Nat} {l : List Base.El} (hl : SL G w (.slice a n c) l) (hl1 : 1 < l.length) (hk : l[0].length ≤ 281474976710656) (ht : l[1].length ≤ 140737488351232) (s st : Int) (hp : prs l[1] = none) :
    Calls Tryz.prog 77 #[cV b now a n c, kV s st] w fun e w' => e = .returned (rp 2 numB 0) ∧ Dn F X b w w' S := by
  obtain ⟨rfl, hcs⟩ := sl_get hl
  obtain ⟨ga, oa, rfl, hc0⟩ := hcs 0 (by omega)
  rw [Nat.add_zero] at hc0
  have hga : ga < w.heap.size := Base.cell_lt hc0
  obtain ⟨ga1, oa1, ea1, hc1⟩ := hcs 1 (by omega)
  obtain ⟨rfl, rfl⟩ : ga = ga1 ∧ oa = oa1 := by injection ea1 with ea1; injection ea1 with e1 e2; exact ⟨e1, e2⟩
  obtain ⟨W, hW⟩ : ∃ W, W = ((w.alloc (cO b now (some ⟨ga, oa, none⟩) l.length c)).alloc (kO s st)).alloc (rO 0 ⟨#[]⟩ 0 (.slice none 0 0)) := ⟨_, rfl⟩
  obtain ⟨bW, x0, x1, x2, sW⟩ := three_boxes w (cO b now (some ⟨ga, oa, none⟩) l.length c) (kO s st) (rO 0 ⟨#[]⟩ 0 (.slice none 0 0))
  rw [← hW] at bW x0 x1 x2 sW
  have HH := hid_of h
  have HB := hid_of bW
  have HX0 := hid_of x0
  have HX1 := hid_of x1
  have HX2 := hid_of x2
  have HSW := hid_of sW
  have HW := hid_of hW
  have t2 : KCmd.Tmp w W (w.heap.size + 2) := ⟨by omega, by rw [HSW.out]; omega⟩
  have HHas : Hid (∀ U, Below W.heap.size W U → Has U) := hid_of fun U hU => (hh.later bW).later hU
  have HS : Hid (∀ U, Below W.heap.size W U → U.cell? ⟨w.heap.size, 0, none⟩ = some (ptr b) ∧ U.cell? ⟨w.heap.size, 1, none⟩ = some (.int .i64 now) ∧ U.cell? ⟨w.heap.size, 2, none⟩ = some (.slice (some ⟨ga, oa, none⟩) l.length c) ∧ U.cell? ⟨w.heap.size + 1, 0, none⟩ = some (.int .i64 s) ∧ U.cell? ⟨w.heap.size + 1, 1, none⟩ = some (.int .i64 st) ∧ U.cell? ⟨ga, oa, none⟩ = some (.string (mk l[0])) ∧ U.cell? ⟨ga, oa + 1, none⟩ = some (.string (mk l[1]))) := hid_of fun U hU => by
    obtain ⟨⟨c0, c1, c2⟩, -⟩ := box3 ((hU.block _ (lt_of HX0.out)).trans HX0.out)
    obtain ⟨⟨k0, k1⟩, -⟩ := box2 ((hU.block _ (lt_of HX1.out)).trans HX1.out)
    have hl2 := Nat.lt_of_lt_of_le hga HB.out.size
    exact ⟨c0, c1, c2, k0, k1, (hU.cell (p := ⟨ga, oa, none⟩) hl2).trans ((HB.out.cell (p := ⟨ga, oa, none⟩) hga).trans hc0), (hU.cell (p := ⟨ga, oa + 1, none⟩) hl2).trans ((HB.out.cell (p := ⟨ga, oa + 1, none⟩) hga).trans hc1)⟩
  obtain ⟨c0, c1, c2, k0, k1, cw0, cw1⟩ := HS.out W (Below.refl _ W)
  have cx0 := cw0
  rw [HW.out] at cx0
  unfold cO kO rO at cx0
  have s0 := HS.out W.drew (Below.refl _ W).drew
  have hlb : (1 : Int) < (l.length : Int) := by omega
  have hlb0 : (0 : Int) < (l.length : Int) := by omega
  have HDl := hid_of (deadline_no (mk l[1]) (by rw [mk_size]; exact ht) W.drew (HHas.out _ (Below.refl _ W).drew) (by exact hp) s st)
  have HC := hid_of fun (V : World) (T : ByteArray) => refused_call T V
  have hq : numB.toList.isEmpty = false := (isE numB numB.data.toList rfl).trans rfl
  obtain ⟨NB, hNB⟩ : ∃ NB, NB = numB := ⟨_, rfl⟩
  rw [← hNB] at HDl hq
  rw [← hNB]
  clear hW bW x0 x1 x2 sW h hcs hl hc0 hc1 ea1 hp hNB hh
  generalize mk l[0] = K0 at *
  generalize mk l[1] = K1 at *
  unfold kV
  go_enter Tryz.func77, Tryz.ntmps77
  go_wp2_with fail
  rw [← HW.out]
  go_wp2_with fail
  go_region_held3 (fun U => U.cell? ⟨w.heap.size, 0, none⟩ = some (ptr b) ∧ U.cell? ⟨w.heap.size, 1, none⟩ = some (.int .i64 now) ∧ U.cell? ⟨w.heap.size, 2, none⟩ = some (.slice (some ⟨ga, oa, none⟩) l.length c) ∧ U.cell? ⟨w.heap.size + 1, 0, none⟩ = some (.int .i64 s) ∧ U.cell? ⟨w.heap.size + 1, 1, none⟩ = some (.int .i64 st) ∧ U.cell? ⟨ga, oa, none⟩ = some (.string K0) ∧ U.cell? ⟨ga, oa + 1, none⟩ = some (.string K1)) (first | with_reducible exact s0 | with_reducible exact s1) (first
    | (go_at_call 106; refine HDl.out.mono ?_; rintro e w1 ⟨rfl, b1⟩; have B1 := hid_of (FRow.bel (Below.refl _ W).drew b1 (Nat.le_refl _)); have s1 := HS.out w1 B1.out; clear b1))
  go_wp2_with fail
  refine (HC.out _ _).mono ?_
  rintro e w2 ⟨rfl, b2⟩
  have D2 := Dn.of (sp_wide HH.out HB.out) (FRow.bel B1.out b2 (Nat.le_refl _))
  have z2 := (dn_block HH.out HB.out D2 t2).trans HX2.out
  have hz := fin4_at z2 (.int .i64 2) (.string NB) (.int .i64 0) (.slice none 0 0)
  have hdn := dn_tmp HH.out HB.out D2 (ev_fin4 t2 (.int .i64 2) (.string NB) (.int .i64 0) (.slice none 0 0))
  unfold fin4 at hz hdn
  obtain ⟨⟨v0, v1, v2, v3⟩, fv⟩ := box4 z2
  have fv0 := fv 0
  have fv1 := fv 1
  have fv2 := fv 2
  have fv3 := fv 3
  clear fv z2
  go_wp2_with fail
  obtain ⟨⟨g0, g1, g2, g3⟩, -⟩ := box4 hz
  exact bodyPost_ret (v := (rp 2 NB 0)) (by simp [results, Tryz.results77, go_sem, g0, g1, g2, g3]) rfl ⟨rfl, hdn⟩
set_option maxHeartbeats 4000000 in
set_option maxRecDepth 100000 in
theorem expire_set (h : SP F X b w S) (hr : Room S) (hh : Has w) (now : Int) (hnow : 0 ≤ now ∧ now ≤ 9007199254740992) {G : Nat → Prop} {a : Option Addr} {n c : Nat} {l : List Base.El} (hl : SL G w (.slice a n c) l) (hl1 : l.length = 2) (hk : l[0].length ≤ 281474976710656) (ht : l[1].length ≤ 140737488351232) (s st : Int) {m : Int} (hp : prs l[1] = some m) (hs : 0 ≤ s ∧ s ≤ 9007199254740992) (hst : st = 1 ∨ st = 1000) (hm0 : 0 ≤ m) (hm : m ≤ Int.tdiv (9007199254740992 - s) st) (hd : s + m * st ≤ 9007199254740992) {en : En} (hg : gt S now l[0] = some en) (hgt : now < s + m * st) :
    Calls Tryz.prog 77 #[cV b now a n c, kV s st] w fun e w' => e = .returned (rp 3 ⟨#[]⟩ 1) ∧ Dn F X b w w' ⟨withL S.l l[0] ⟨en.val, s + m * st, S.cnt + 1⟩, S.cnt + 1, none⟩ := by
  obtain ⟨rfl, hcs⟩ := sl_get hl
  obtain ⟨ga, oa, rfl, hc0⟩ := hcs 0 (by omega)
  rw [Nat.add_zero] at hc0
  have hga : ga < w.heap.size := Base.cell_lt hc0
  obtain ⟨ga1, oa1, ea1, hc1⟩ := hcs 1 (by omega)
  obtain ⟨rfl, rfl⟩ : ga = ga1 ∧ oa = oa1 := by injection ea1 with ea1; injection ea1 with e1 e2; exact ⟨e1, e2⟩
  obtain ⟨W, hW⟩ : ∃ W, W = ((w.alloc (cO b now (some ⟨ga, oa, none⟩) l.length c)).alloc (kO s st)).alloc (rO 0 ⟨#[]⟩ 0 (.slice none 0 0)) := ⟨_, rfl⟩
  obtain ⟨bW, x0, x1, x2, sW⟩ := three_boxes w (cO b now (some ⟨ga, oa, none⟩) l.length c) (kO s st) (rO 0 ⟨#[]⟩ 0 (.slice none 0 0))
  rw [← hW] at bW x0 x1 x2 sW
  have HH := hid_of h
  have HB := hid_of bW
  have HX0 := hid_of x0
  have HX1 := hid_of x1
  have HX2 := hid_of x2
  have HSW := hid_of sW
  have HW := hid_of hW
  have t2 : KCmd.Tmp w W (w.heap.size + 2) := ⟨by omega, by rw [HSW.out]; omega⟩
  have HHas : Hid (∀ U, Below W.heap.size W U → Has U) := hid_of fun U hU => (hh.later bW).later hU
  have HS : Hid (∀ U, Below W.heap.size W U → U.cell? ⟨w.heap.size, 0, none⟩ = some (ptr b) ∧ U.cell? ⟨w.heap.size, 1, none⟩ = some (.int .i64 now) ∧ U.cell? ⟨w.heap.size, 2, none⟩ = some (.slice (some ⟨ga, oa, none⟩) l.length c) ∧ U.cell? ⟨w.heap.size + 1, 0, none⟩ = some (.int .i64 s) ∧ U.cell? ⟨w.heap.size + 1, 1, none⟩ = some (.int .i64 st) ∧ U.cell? ⟨ga, oa, none⟩ = some (.string (mk l[0])) ∧ U.cell? ⟨ga, oa + 1, none⟩ = some (.string (mk l[1]))) := hid_of fun U hU => by
    obtain ⟨⟨c0, c1, c2⟩, -⟩ := box3 ((hU.block _ (lt_of HX0.out)).trans HX0.out)
    obtain ⟨⟨k0, k1⟩, -⟩ := box2 ((hU.block _ (lt_of HX1.out)).trans HX1.out)
    have hl2 := Nat.lt_of_lt_of_le hga HB.out.size
    exact ⟨c0, c1, c2, k0, k1, (hU.cell (p := ⟨ga, oa, none⟩) hl2).trans ((HB.out.cell (p := ⟨ga, oa, none⟩) hga).trans hc0), (hU.cell (p := ⟨ga, oa + 1, none⟩) hl2).trans ((HB.out.cell (p := ⟨ga, oa + 1, none⟩) hga).trans hc1)⟩
  obtain ⟨c0, c1, c2, k0, k1, cw0, cw1⟩ := HS.out W (Below.refl _ W)
  have cx0 := cw0
  rw [HW.out] at cx0
  unfold cO kO rO at cx0
  have s0 := HS.out W.drew (Below.refl _ W).drew
  have hlb : (1 : Int) < (l.length : Int) := by omega
  have hlb0 : (0 : Int) < (l.length : Int) := by omega
  have HDl := hid_of (deadline_ok (mk l[1]) (by rw [mk_size]; exact ht) W.drew (HHas.out _ (Below.refl _ W).drew) (by exact hp) s st hs hst hm0 hm hd)
  have HDu := hid_of fun (V : World) (hV : Below W.heap.size W V) => QBase.due_call ((sp_wide h bW).below hV) l[0] hk now
  have hdv : dueV S now l[0] = en.due := by unfold dueV; rw [hg]; rfl
  rw [hdv, hg] at HDu
  simp only [Option.isSome_some] at HDu
  have HC := hid_of fun (V : World) (n : Int) => count_call n V
  have hlk := (gt_some hg).1
  generalize hD : s + m * st = D at *
  have hd0 : 0 ≤ D := by omega
  have HSd : Hid (∀ V, Dn F (fun k => X k ∨ KCmd.Tmp w W k) b W V S → Calls Tryz.prog 84 #[ptr b, .string (mk l[0]), .int .i64 D] V fun e w' => e = .returned (.bool true) ∧ Dn F (fun k => X k ∨ KCmd.Tmp w W k) b W w' ⟨withL S.l l[0] ⟨en.val, D, S.cnt + 1⟩, S.cnt + 1, none⟩) := hid_of fun V DV => wr_dn DV fun F1 s1 => SDrop.setdue_yes s1 hr.m hr.c hr.n l[0] hk D ⟨hd0, hd⟩ hlk
  clear hd0
  have hgt2 : D > now := hgt
  have HFl := hid_of fun (V : World) (a : Option Addr) (c : Nat) => flags_none a c 15 V
  have HBa := hid_of fun (V : World) (d : Int) => bar_0 d D V
  obtain ⟨S2, hS2⟩ : ∃ S2 : Sp, S2 = ⟨withL S.l l[0] ⟨en.val, D, S.cnt + 1⟩, S.cnt + 1, none⟩ := ⟨_, rfl⟩
  rw [← hS2] at HSd
  rw [← hS2]
  have HCut : Hid (∃ a', ∀ U : World, (Instr.slice 26 (.slice (some ⟨ga, oa, none⟩) l.length c) (some (.int .i64 2)) none none).run Tryz.prog U = .ok (.slice a' 0 (c - 2)) U) := hid_of (by
    obtain ⟨a0, c0, e, hc, hr'⟩ := hl
    injection e with e1 e2 e3
    subst e3
    refine ⟨Base.ca (some ⟨ga, oa, none⟩) c 2, fun U => ?_⟩
    have := Base.cut_lo (some ⟨ga, oa, none⟩) l.length c 2 2 rfl (by omega) U
    rw [hl1] at this ⊢
    exact this)
  obtain ⟨a', hcut⟩ := HCut.out
  rw [hl1] at hcut
  clear hW bW x0 x1 x2 sW h hcs hl hc0 hc1 ea1 hp hh hg hlk hdv HCut hk ht hm hst hs hm0 hS2
  generalize mk l[0] = K0 at *
  generalize mk l[1] = K1 at *
  rw [hl1] at HW c2 s0 HS hlb hlb0 cx0 ⊢
  clear hl1
  generalize en.due = du at *
  clear hD hd
  unfold kV
  go_enter Tryz.func77, Tryz.ntmps77
  go_wp2_with fail
  rw [← HW.out]
  go_wp2_with fail
  go_region_held3 (fun U => U.cell? ⟨w.heap.size, 0, none⟩ = some (ptr b) ∧ U.cell? ⟨w.heap.size, 1, none⟩ = some (.int .i64 now) ∧ U.cell? ⟨w.heap.size, 2, none⟩ = some (.slice (some ⟨ga, oa, none⟩) 2 c) ∧ U.cell? ⟨w.heap.size + 1, 0, none⟩ = some (.int .i64 s) ∧ U.cell? ⟨w.heap.size + 1, 1, none⟩ = some (.int .i64 st) ∧ U.cell? ⟨ga, oa, none⟩ = some (.string K0) ∧ U.cell? ⟨ga, oa + 1, none⟩ = some (.string K1)) (first | with_reducible exact s0 | with_reducible exact s1) (first
    | (go_at_call 106; refine HDl.out.mono ?_; rintro e w1 ⟨rfl, b1⟩; have B1 := hid_of (FRow.bel (Below.refl _ W).drew b1 (Nat.le_refl _)); have s1 := HS.out w1 B1.out; clear b1))
  go_wp2_with fail
  refine (HFl.out _ _ _).mono ?_
  rintro e w2 ⟨rfl, rfl⟩
  go_wp2_with fail
  refine (HDu.out _ B1.out).mono ?_
  rintro e w3 ⟨rfl, b3⟩
  have B3 := hid_of (FRow.bel B1.out b3 (Nat.le_refl _))
  obtain ⟨q0, q1, q2, q3, q4, q5, q6⟩ := HS.out w3 B3.out
  clear b3 s1
  go_wp2_with fail
  refine (HBa.out _ _).mono ?_
  rintro e w4 ⟨rfl, rfl⟩
  have DB := hid_of (Dn.of (sp_wide HH.out HB.out) B3.out)
  go_wp2_with fail
  refine (HSd.out _ DB.out).mono ?_
  rintro e w5 ⟨rfl, d5⟩
  have D5 := hid_of d5
  clear d5 q0 q1 q2 q3 q4 q5 q6
  go_wp2_with fail
  refine (HC.out _ _).mono ?_
  rintro e w6 ⟨rfl, b6⟩
  have D6 := SDrop.dn_below D5.out b6
  have z2 := (dn_block HH.out HB.out D6 t2).trans HX2.out
  have hz := fin4_at z2 (.int .i64 3) (.string ⟨#[]⟩) (.int .i64 1) (.slice none 0 0)
  have hdn := dn_tmp HH.out HB.out D6 (ev_fin4 t2 (.int .i64 3) (.string ⟨#[]⟩) (.int .i64 1) (.slice none 0 0))
  unfold fin4 at hz hdn
  obtain ⟨⟨v0, v1, v2, v3⟩, fv⟩ := box4 z2
  have fv0 := fv 0
  have fv1 := fv 1
  have fv2 := fv 2
  have fv3 := fv 3
  clear fv z2
  go_wp2_with fail
  obtain ⟨⟨g0, g1, g2, g3⟩, -⟩ := box4 hz
  exact bodyPost_ret (v := (rp 3 ⟨#[]⟩ 1)) (by simp [results, Tryz.results77, go_sem, g0, g1, g2, g3]) rfl ⟨rfl, hdn⟩
set_option maxHeartbeats 4000000 in
set_option maxRecDepth 100000 in
theorem expire_drop (h : SP F X b w S) (hr : Room S) (hh : Has w) (now : Int) (hnow : 0 ≤ now ∧ now ≤ 9007199254740992) {G : Nat → Prop} {a : Option Addr} {n c : Nat} {l : List Base.El} (hl : SL G w (.slice a n c) l) (hl1 : l.length = 2) (hk : l[0].length ≤ 281474976710656) (ht : l[1].length ≤ 140737488351232) (s st : Int) {m : Int} (hp : prs l[1] = some m) (hs : 0 ≤ s ∧ s ≤ 9007199254740992) (hst : st = 1 ∨ st = 1000) (hm0 : 0 ≤ m) (hm : m ≤ Int.tdiv (9007199254740992 - s) st) (hd : s + m * st ≤ 9007199254740992) {en : En} (hg : gt S now l[0] = some en) (hgt : s + m * st ≤ now) :
    Calls Tryz.prog 77 #[cV b now a n c, kV s st] w fun e w' => e = .returned (rp 3 ⟨#[]⟩ 1) ∧ Dn F X b w w' ⟨wout S.l l[0], S.cnt + 1, none⟩ := by
  obtain ⟨rfl, hcs⟩ := sl_get hl
  obtain ⟨ga, oa, rfl, hc0⟩ := hcs 0 (by omega)
  rw [Nat.add_zero] at hc0
  have hga : ga < w.heap.size := Base.cell_lt hc0
  obtain ⟨ga1, oa1, ea1, hc1⟩ := hcs 1 (by omega)
  obtain ⟨rfl, rfl⟩ : ga = ga1 ∧ oa = oa1 := by injection ea1 with ea1; injection ea1 with e1 e2; exact ⟨e1, e2⟩
  obtain ⟨W, hW⟩ : ∃ W, W = ((w.alloc (cO b now (some ⟨ga, oa, none⟩) l.length c)).alloc (kO s st)).alloc (rO 0 ⟨#[]⟩ 0 (.slice none 0 0)) := ⟨_, rfl⟩
  obtain ⟨bW, x0, x1, x2, sW⟩ := three_boxes w (cO b now (some ⟨ga, oa, none⟩) l.length c) (kO s st) (rO 0 ⟨#[]⟩ 0 (.slice none 0 0))
  rw [← hW] at bW x0 x1 x2 sW
  have HH := hid_of h
  have HB := hid_of bW
  have HX0 := hid_of x0
  have HX1 := hid_of x1
  have HX2 := hid_of x2
  have HSW := hid_of sW
  have HW := hid_of hW
  have t2 : KCmd.Tmp w W (w.heap.size + 2) := ⟨by omega, by rw [HSW.out]; omega⟩
  have HHas : Hid (∀ U, Below W.heap.size W U → Has U) := hid_of fun U hU => (hh.later bW).later hU
  have HS : Hid (∀ U, Below W.heap.size W U → U.cell? ⟨w.heap.size, 0, none⟩ = some (ptr b) ∧ U.cell? ⟨w.heap.size, 1, none⟩ = some (.int .i64 now) ∧ U.cell? ⟨w.heap.size, 2, none⟩ = some (.slice (some ⟨ga, oa, none⟩) l.length c) ∧ U.cell? ⟨w.heap.size + 1, 0, none⟩ = some (.int .i64 s) ∧ U.cell? ⟨w.heap.size + 1, 1, none⟩ = some (.int .i64 st) ∧ U.cell? ⟨ga, oa, none⟩ = some (.string (mk l[0])) ∧ U.cell? ⟨ga, oa + 1, none⟩ = some (.string (mk l[1]))) := hid_of fun U hU => by
    obtain ⟨⟨c0, c1, c2⟩, -⟩ := box3 ((hU.block _ (lt_of HX0.out)).trans HX0.out)
    obtain ⟨⟨k0, k1⟩, -⟩ := box2 ((hU.block _ (lt_of HX1.out)).trans HX1.out)
    have hl2 := Nat.lt_of_lt_of_le hga HB.out.size
    exact ⟨c0, c1, c2, k0, k1, (hU.cell (p := ⟨ga, oa, none⟩) hl2).trans ((HB.out.cell (p := ⟨ga, oa, none⟩) hga).trans hc0), (hU.cell (p := ⟨ga, oa + 1, none⟩) hl2).trans ((HB.out.cell (p := ⟨ga, oa + 1, none⟩) hga).trans hc1)⟩
  obtain ⟨c0, c1, c2, k0, k1, cw0, cw1⟩ := HS.out W (Below.refl _ W)
  have cx0 := cw0
  rw [HW.out] at cx0
  unfold cO kO rO at cx0
  have s0 := HS.out W.drew (Below.refl _ W).drew
  have hlb : (1 : Int) < (l.length : Int) := by omega
  have hlb0 : (0 : Int) < (l.length : Int) := by omega
  have HDl := hid_of (deadline_ok (mk l[1]) (by rw [mk_size]; exact ht) W.drew (HHas.out _ (Below.refl _ W).drew) (by exact hp) s st hs hst hm0 hm hd)
  have HDu := hid_of fun (V : World) (hV : Below W.heap.size W V) => QBase.due_call ((sp_wide h bW).below hV) l[0] hk now
  have hdv : dueV S now l[0] = en.due := by unfold dueV; rw [hg]; rfl
  rw [hdv, hg] at HDu
  simp only [Option.isSome_some] at HDu
  have HC := hid_of fun (V : World) (n : Int) => count_call n V
  have hlk := (gt_some hg).1
  generalize hD : s + m * st = D at *
  have HSd : Hid (∀ V, Dn F (fun k => X k ∨ KCmd.Tmp w W k) b W V S → Calls Tryz.prog 72 #[ptr b, .string (mk l[0])] V fun e w' => e = .returned (.bool true) ∧ Dn F (fun k => X k ∨ KCmd.Tmp w W k) b W w' ⟨wout S.l l[0], S.cnt + 1, none⟩) := hid_of fun V DV => wr_dn DV fun F1 s1 => SDrop.drop_yes s1 hr.m hr.c l[0] hk hlk
  have hgt2 : ¬ D > now := by omega
  have hgt3 : ¬ now < D := by omega
  have HFl := hid_of fun (V : World) (a : Option Addr) (c : Nat) => flags_none a c 15 V
  have HBa := hid_of fun (V : World) (d : Int) => bar_0 d D V
  obtain ⟨S2, hS2⟩ : ∃ S2 : Sp, S2 = ⟨wout S.l l[0], S.cnt + 1, none⟩ := ⟨_, rfl⟩
  rw [← hS2] at HSd
  rw [← hS2]
  have HCut : Hid (∃ a', ∀ U : World, (Instr.slice 26 (.slice (some ⟨ga, oa, none⟩) l.length c) (some (.int .i64 2)) none none).run Tryz.prog U = .ok (.slice a' 0 (c - 2)) U) := hid_of (by
    obtain ⟨a0, c0, e, hc, hr'⟩ := hl
    injection e with e1 e2 e3
    subst e3
    refine ⟨Base.ca (some ⟨ga, oa, none⟩) c 2, fun U => ?_⟩
    have := Base.cut_lo (some ⟨ga, oa, none⟩) l.length c 2 2 rfl (by omega) U
    rw [hl1] at this ⊢
    exact this)
  obtain ⟨a', hcut⟩ := HCut.out
  rw [hl1] at hcut
  clear hW bW x0 x1 x2 sW h hcs hl hc0 hc1 ea1 hp hh hg hlk hdv HCut hk ht hm hst hs hm0 hS2
  generalize mk l[0] = K0 at *
  generalize mk l[1] = K1 at *
  rw [hl1] at HW c2 s0 HS hlb hlb0 cx0 ⊢
  clear hl1
  generalize en.due = du at *
  clear hD hd
  unfold kV
  go_enter Tryz.func77, Tryz.ntmps77
  go_wp2_with fail
  rw [← HW.out]
  go_wp2_with fail
  go_region_held3 (fun U => U.cell? ⟨w.heap.size, 0, none⟩ = some (ptr b) ∧ U.cell? ⟨w.heap.size, 1, none⟩ = some (.int .i64 now) ∧ U.cell? ⟨w.heap.size, 2, none⟩ = some (.slice (some ⟨ga, oa, none⟩) 2 c) ∧ U.cell? ⟨w.heap.size + 1, 0, none⟩ = some (.int .i64 s) ∧ U.cell? ⟨w.heap.size + 1, 1, none⟩ = some (.int .i64 st) ∧ U.cell? ⟨ga, oa, none⟩ = some (.string K0) ∧ U.cell? ⟨ga, oa + 1, none⟩ = some (.string K1)) (first | with_reducible exact s0 | with_reducible exact s1) (first
    | (go_at_call 106; refine HDl.out.mono ?_; rintro e w1 ⟨rfl, b1⟩; have B1 := hid_of (FRow.bel (Below.refl _ W).drew b1 (Nat.le_refl _)); have s1 := HS.out w1 B1.out; clear b1))
  go_wp2_with fail
  refine (HFl.out _ _ _).mono ?_
  rintro e w2 ⟨rfl, rfl⟩
  go_wp2_with fail
  refine (HDu.out _ B1.out).mono ?_
  rintro e w3 ⟨rfl, b3⟩
  have B3 := hid_of (FRow.bel B1.out b3 (Nat.le_refl _))
  obtain ⟨q0, q1, q2, q3, q4, q5, q6⟩ := HS.out w3 B3.out
  clear b3 s1
  go_wp2_with fail
  refine (HBa.out _ _).mono ?_
  rintro e w4 ⟨rfl, rfl⟩
  have DB := hid_of (Dn.of (sp_wide HH.out HB.out) B3.out)
  go_wp2_with fail
  refine (HSd.out _ DB.out).mono ?_
  rintro e w5 ⟨rfl, d5⟩
  have D5 := hid_of d5
  clear d5 q0 q1 q2 q3 q4 q5 q6
  go_wp2_with fail
  refine (HC.out _ _).mono ?_
  rintro e w6 ⟨rfl, b6⟩
  have D6 := SDrop.dn_below D5.out b6
  have z2 := (dn_block HH.out HB.out D6 t2).trans HX2.out
  have hz := fin4_at z2 (.int .i64 3) (.string ⟨#[]⟩) (.int .i64 1) (.slice none 0 0)
  have hdn := dn_tmp HH.out HB.out D6 (ev_fin4 t2 (.int .i64 3) (.string ⟨#[]⟩) (.int .i64 1) (.slice none 0 0))
  unfold fin4 at hz hdn
  obtain ⟨⟨v0, v1, v2, v3⟩, fv⟩ := box4 z2
  have fv0 := fv 0
  have fv1 := fv 1
  have fv2 := fv 2
  have fv3 := fv 3
  clear fv z2
  go_wp2_with fail
  obtain ⟨⟨g0, g1, g2, g3⟩, -⟩ := box4 hz
  exact bodyPost_ret (v := (rp 3 ⟨#[]⟩ 1)) (by simp [results, Tryz.results77, go_sem, g0, g1, g2, g3]) rfl ⟨rfl, hdn⟩
set_option maxHeartbeats 4000000 in
set_option maxRecDepth 100000 in
theorem expire_bar (h : SP F X b w S) (hh : Has w) (now : Int) (hnow : 0 ≤ now ∧ now ≤ 9007199254740992) {G : Nat → Prop} {a : Option Addr} {n c : Nat} {l : List Base.El} (hl : SL G w (.slice a n c) l) (hl1 : l.length = 3) (hk : l[0].length ≤ 281474976710656) (ht : l[1].length ≤ 140737488351232) (s st : Int) {m : Int} (hp : prs l[1] = some m) (hs : 0 ≤ s ∧ s ≤ 9007199254740992) (hst : st = 1 ∨ st = 1000) (hm0 : 0 ≤ m) (hm : m ≤ Int.tdiv (9007199254740992 - s) st) (hd : s + m * st ≤ 9007199254740992) {en : En} (hg : gt S now l[0] = some en) (fl : Int) (hfl : ∀ V a' c', Below w.heap.size w V → SL G V (.slice a' 1 c') [l[2]] → Calls Tryz.prog 65 #[.slice a' 1 c', .int .i64 15] V fun e w' => e = .returned (.tuple #[.int .i64 fl, .string ⟨#[]⟩]) ∧ Below V.heap.size V w')
    (hbar : ∀ V, Calls Tryz.prog 107 #[.int .i64 fl, .int .i64 en.due, .int .i64 (s + m * st)] V fun e w' => e = .returned (.bool true) ∧ w' = V) :
    Calls Tryz.prog 77 #[cV b now a n c, kV s st] w fun e w' => e = .returned (rp 3 ⟨#[]⟩ 0) ∧ Dn F X b w w' S := by
  obtain ⟨rfl, hcs⟩ := sl_get hl
  obtain ⟨ga, oa, rfl, hc0⟩ := hcs 0 (by omega)
  rw [Nat.add_zero] at hc0
  have hga : ga < w.heap.size := Base.cell_lt hc0
  obtain ⟨ga1, oa1, ea1, hc1⟩ := hcs 1 (by omega)
  obtain ⟨rfl, rfl⟩ : ga = ga1 ∧ oa = oa1 := by injection ea1 with ea1; injection ea1 with e1 e2; exact ⟨e1, e2⟩
  obtain ⟨W, hW⟩ : ∃ W, W = ((w.alloc (cO b now (some ⟨ga, oa, none⟩) l.length c)).alloc (kO s st)).alloc (rO 0 ⟨#[]⟩ 0 (.slice none 0 0)) := ⟨_, rfl⟩
  obtain ⟨bW, x0, x1, x2, sW⟩ := three_boxes w (cO b now (some ⟨ga, oa, none⟩) l.length c) (kO s st) (rO 0 ⟨#[]⟩ 0 (.slice none 0 0))
  rw [← hW] at bW x0 x1 x2 sW
  have HH := hid_of h
  have HB := hid_of bW
  have HX0 := hid_of x0
  have HX1 := hid_of x1
  have HX2 := hid_of x2
  have HSW := hid_of sW
  have HW := hid_of hW
  have t2 : KCmd.Tmp w W (w.heap.size + 2) := ⟨by omega, by rw [HSW.out]; omega⟩
  have HHas : Hid (∀ U, Below W.heap.size W U → Has U) := hid_of fun U hU => (hh.later bW).later hU
  have HS : Hid (∀ U, Below W.heap.size W U → U.cell? ⟨w.heap.size, 0, none⟩ = some (ptr b) ∧ U.cell? ⟨w.heap.size, 1, none⟩ = some (.int .i64 now) ∧ U.cell? ⟨w.heap.size, 2, none⟩ = some (.slice (some ⟨ga, oa, none⟩) l.length c) ∧ U.cell? ⟨w.heap.size + 1, 0, none⟩ = some (.int .i64 s) ∧ U.cell? ⟨w.heap.size + 1, 1, none⟩ = some (.int .i64 st) ∧ U.cell? ⟨ga, oa, none⟩ = some (.string (mk l[0])) ∧ U.cell? ⟨ga, oa + 1, none⟩ = some (.string (mk l[1]))) := hid_of fun U hU => by
    obtain ⟨⟨c0, c1, c2⟩, -⟩ := box3 ((hU.block _ (lt_of HX0.out)).trans HX0.out)
    obtain ⟨⟨k0, k1⟩, -⟩ := box2 ((hU.block _ (lt_of HX1.out)).trans HX1.out)
    have hl2 := Nat.lt_of_lt_of_le hga HB.out.size
    exact ⟨c0, c1, c2, k0, k1, (hU.cell (p := ⟨ga, oa, none⟩) hl2).trans ((HB.out.cell (p := ⟨ga, oa, none⟩) hga).trans hc0), (hU.cell (p := ⟨ga, oa + 1, none⟩) hl2).trans ((HB.out.cell (p := ⟨ga, oa + 1, none⟩) hga).trans hc1)⟩
  obtain ⟨c0, c1, c2, k0, k1, cw0, cw1⟩ := HS.out W (Below.refl _ W)
  have cx0 := cw0
  rw [HW.out] at cx0
  unfold cO kO rO at cx0
  have s0 := HS.out W.drew (Below.refl _ W).drew
  have hlb : (1 : Int) < (l.length : Int) := by omega
  have hlb0 : (0 : Int) < (l.length : Int) := by omega
  have HDl := hid_of (deadline_ok (mk l[1]) (by rw [mk_size]; exact ht) W.drew (HHas.out _ (Below.refl _ W).drew) (by exact hp) s st hs hst hm0 hm hd)
  have HDu := hid_of fun (V : World) (hV : Below W.heap.size W V) => QBase.due_call ((sp_wide h bW).below hV) l[0] hk now
  have hdv : dueV S now l[0] = en.due := by unfold dueV; rw [hg]; rfl
  rw [hdv, hg] at HDu
  simp only [Option.isSome_some] at HDu
  have HC := hid_of fun (V : World) (n : Int) => count_call n V
  have hlk := (gt_some hg).1
  generalize hD : s + m * st = D at *
  have HBa := hid_of hbar
  have HCut : Hid (∃ a', (∀ U, Below W.heap.size W U → SL G U (.slice a' 1 (c - 2)) [l[2]]) ∧ ∀ U : World, (Instr.slice 26 (.slice (some ⟨ga, oa, none⟩) l.length c) (some (.int .i64 2)) none none).run Tryz.prog U = .ok (.slice a' 1 (c - 2)) U) := hid_of (by
    obtain ⟨a1, hs1, hr1⟩ := KRun.tail_cut hl (by omega)
    obtain ⟨a0, c0, e, hc, hrd⟩ := id hl
    injection e with e1 e2 e3
    subst e1
    subst e3
    refine ⟨Base.ca (some ⟨ga, oa, none⟩) c 2, fun U hU => ?_, fun U => ?_⟩
    · refine ⟨_, _, rfl, by simp; omega, ?_⟩
      refine .inr ⟨ga, oa + 2, Base.ca_some _ _ _ _ (by omega), ?_, fun j x hj => ?_⟩
      · obtain ⟨g', o', eg, hG, _⟩ := Base.Rd.get hrd (by omega)
        injection eg with eg
        injection eg with g1 g2
        rw [g1]; exact hG
      · obtain ⟨g', o', eg, hcw⟩ := hcs 2 (by omega)
        injection eg with eg
        injection eg with g1 g2
        subst g1 g2
        cases j with
        | zero =>
          simp at hj
          subst hj
          have hl2 := Nat.lt_of_lt_of_le hga HB.out.size
          exact (hU.cell (p := ⟨ga, oa + 2, none⟩) hl2).trans ((HB.out.cell (p := ⟨ga, oa + 2, none⟩) hga).trans hcw)
        | succ j => simp at hj
    · have := Base.cut_lo (some ⟨ga, oa, none⟩) l.length c 2 2 rfl (by omega) U
      rw [hl1] at this ⊢
      exact this)
  obtain ⟨a', hsl, hcut⟩ := HCut.out
  have HFl := hid_of fun (V : World) (hV : Below W.heap.size W V) => hfl V a' (c - 2) (FRow.bel bW hV (Nat.le_refl _)) (hsl V hV)
  rw [hl1] at hcut
  clear hW bW x0 x1 x2 sW h hcs hl hc0 hc1 ea1 hp hh hg hlk hdv HCut hk ht hm hst hs hm0 hbar hfl hsl
  generalize mk l[0] = K0 at *
  generalize mk l[1] = K1 at *
  rw [hl1] at HW c2 s0 HS hlb hlb0 cx0 ⊢
  clear hl1
  generalize en.due = du at *
  clear hD hd
  unfold kV
  go_enter Tryz.func77, Tryz.ntmps77
  go_wp2_with fail
  rw [← HW.out]
  go_wp2_with fail
  go_region_held3 (fun U => U.cell? ⟨w.heap.size, 0, none⟩ = some (ptr b) ∧ U.cell? ⟨w.heap.size, 1, none⟩ = some (.int .i64 now) ∧ U.cell? ⟨w.heap.size, 2, none⟩ = some (.slice (some ⟨ga, oa, none⟩) 3 c) ∧ U.cell? ⟨w.heap.size + 1, 0, none⟩ = some (.int .i64 s) ∧ U.cell? ⟨w.heap.size + 1, 1, none⟩ = some (.int .i64 st) ∧ U.cell? ⟨ga, oa, none⟩ = some (.string K0) ∧ U.cell? ⟨ga, oa + 1, none⟩ = some (.string K1)) (first | with_reducible exact s0 | with_reducible exact s1) (first
    | (go_at_call 106; refine HDl.out.mono ?_; rintro e w1 ⟨rfl, b1⟩; have B1 := hid_of (FRow.bel (Below.refl _ W).drew b1 (Nat.le_refl _)); have s1 := HS.out w1 B1.out; clear b1))
  go_wp2_with fail
  refine (HFl.out _ B1.out).mono ?_
  rintro e w2 ⟨rfl, b2⟩
  have B2 := hid_of (FRow.bel B1.out b2 (Nat.le_refl _))
  obtain ⟨p0, p1, p2, p3, p4, p5, p6⟩ := HS.out w2 B2.out
  clear b2 s1
  go_wp2_with fail
  refine (HDu.out _ B2.out).mono ?_
  rintro e w3 ⟨rfl, b3⟩
  have B3 := hid_of (FRow.bel B2.out b3 (Nat.le_refl _))
  obtain ⟨q0, q1, q2, q3, q4, q5, q6⟩ := HS.out w3 B3.out
  clear b3 p0 p1 p2 p3 p4 p5 p6
  go_wp2_with fail
  refine (HBa.out _).mono ?_
  rintro e w4 ⟨rfl, rfl⟩
  go_wp2_with fail
  refine (HC.out _ _).mono ?_
  rintro e w6 ⟨rfl, b6⟩
  have D6 := Dn.of (sp_wide HH.out HB.out) (FRow.bel B3.out b6 (Nat.le_refl _))
  have z2 := (dn_block HH.out HB.out D6 t2).trans HX2.out
  have hz := fin4_at z2 (.int .i64 3) (.string ⟨#[]⟩) (.int .i64 0) (.slice none 0 0)
  have hdn := dn_tmp HH.out HB.out D6 (ev_fin4 t2 (.int .i64 3) (.string ⟨#[]⟩) (.int .i64 0) (.slice none 0 0))
  unfold fin4 at hz hdn
  obtain ⟨⟨v0, v1, v2, v3⟩, fv⟩ := box4 z2
  have fv0 := fv 0
  have fv1 := fv 1
  have fv2 := fv 2
  have fv3 := fv 3
  clear fv z2
  go_wp2_with fail
  obtain ⟨⟨g0, g1, g2, g3⟩, -⟩ := box4 hz
  exact bodyPost_ret (v := (rp 3 ⟨#[]⟩ 0)) (by simp [results, Tryz.results77, go_sem, g0, g1, g2, g3]) rfl ⟨rfl, hdn⟩
end
end Go.Proofs.YtminfpkigenahaaGreatDoor.KExd
end
section
namespace Go.Proofs.YtminfpkigenahaaGreatDoor.KExw
open Go.RowKit Go.Maps
open Go.Proofs.YtminfpkigenahaaGreatDoor.SpaceMath (wout withL lkp keys Ris toD)
open Go.Proofs.YtminfpkigenahaaGreatDoor.ValueMath (Vl chk small)
open Go.Proofs.YtminfpkigenahaaGreatDoor.Base (mk mk_list mk_size Gr hid_of SL)
open Go.Proofs.YtminfpkigenahaaGreatDoor.Turn
open Go.Proofs.YtminfpkigenahaaGreatDoor.Vals
open Go.Proofs.YtminfpkigenahaaGreatDoor.Check0 (Wel)
open Go.Proofs.YtminfpkigenahaaGreatDoor.SBase
open Go.Proofs.YtminfpkigenahaaGreatDoor.SFind
open Go.Proofs.YtminfpkigenahaaGreatDoor.SPut (vO)
open Go.Proofs.YtminfpkigenahaaGreatDoor.QBase
open Go.Proofs.YtminfpkigenahaaGreatDoor.KCmd
open Go.Proofs.YtminfpkigenahaaGreatDoor.Parse (Has)
set_option linter.unusedVariables false
set_option linter.unusedSimpArgs false
open Go.Proofs.YtminfpkigenahaaGreatDoor.KEx
section
variable {F X : Nat → Prop} {b : Nat} {w : World} {S : Sp}
set_option maxHeartbeats 4000000 in
set_option maxRecDepth 100000 in
theorem expireInSeconds_call (h : SP F X b w S) (now : Int) (a : Option Addr) (n c : Nat) {k m : Int} {T : ByteArray} {S' : Sp} (hE : ∀ V (X' : Nat → Prop), SP F X' b V S → Below w.heap.size w V → Calls Tryz.prog 77 #[cV b now a n c, kV now 1000] V fun e w' => e = .returned (rp k T m) ∧ Dn F X' b V w' S') :
    Calls Tryz.prog 43 #[cV b now a n c] w fun e w' => e = .returned (rp k T m) ∧ Dn F X b w w' S' := by
  obtain ⟨W, hW⟩ : ∃ W, W = (w.alloc (cO b now a n c)).alloc (rO 0 ⟨#[]⟩ 0 (.slice none 0 0)) := ⟨_, rfl⟩
  obtain ⟨bW, x0, x1, sW⟩ := two_boxes w (cO b now a n c) (rO 0 ⟨#[]⟩ 0 (.slice none 0 0)) ⟨_, _, rfl⟩
  rw [← hW] at bW x0 x1 sW
  have HH := hid_of h
  have HB := hid_of bW
  have HX0 := hid_of x0
  have HX1 := hid_of x1
  have HSW := hid_of sW
  have HW := hid_of hW
  have t0 : KCmd.Tmp w W w.heap.size := ⟨Nat.le_refl _, by rw [HSW.out]; omega⟩
  have t1 : KCmd.Tmp w W (w.heap.size + 1) := ⟨by omega, by rw [HSW.out]; omega⟩
  have H1 := hid_of (hE W (fun k => X k ∨ KCmd.Tmp w W k) (sp_wide h bW) bW)
  obtain ⟨⟨c0, c1, c2⟩, -⟩ := box3 x0
  unfold kV at H1
  clear hW bW x0 x1 sW h hE
  go_enter Tryz.func43, Tryz.ntmps43
  go_wp2_with fail
  rw [← HW.out]
  go_wp2_with fail
  refine H1.out.mono ?_
  rintro e w2 ⟨rfl, d2⟩
  have D2 := hid_of d2
  clear d2
  have z2 := (dn_block HH.out HB.out D2.out t1).trans HX1.out
  have hz := fin4_at z2 (.int .i64 k) (.string T) (.int .i64 m) (.slice none 0 0)
  have hdn := dn_tmp HH.out HB.out D2.out (ev_fin4 t1 (.int .i64 k) (.string T) (.int .i64 m) (.slice none 0 0))
  unfold fin4 at hz hdn
  obtain ⟨⟨v0, v1, v2, v3⟩, fv⟩ := box4 z2
  have fv0 := fv 0
  have fv1 := fv 1
  have fv2 := fv 2
  have fv3 := fv 3
  clear fv z2
  go_wp2_with fail
  obtain ⟨⟨g0, g1, g2, g3⟩, -⟩ := box4 hz
  exact bodyPost_ret (v := (rp k T m)) (by simp [results, Tryz.results43, go_sem, g0, g1, g2, g3]) rfl ⟨rfl, hdn⟩
set_option maxHeartbeats 4000000 in
set_option maxRecDepth 100000 in
theorem expireInTicks_call (h : SP F X b w S) (now : Int) (a : Option Addr) (n c : Nat) {k m : Int} {T : ByteArray} {S' : Sp} (hE : ∀ V (X' : Nat → Prop), SP F X' b V S → Below w.heap.size w V → Calls Tryz.prog 77 #[cV b now a n c, kV now 1] V fun e w' => e = .returned (rp k T m) ∧ Dn F X' b V w' S') :
    Calls Tryz.prog 49 #[cV b now a n c] w fun e w' => e = .returned (rp k T m) ∧ Dn F X b w w' S' := by
  obtain ⟨W, hW⟩ : ∃ W, W = (w.alloc (cO b now a n c)).alloc (rO 0 ⟨#[]⟩ 0 (.slice none 0 0)) := ⟨_, rfl⟩
  obtain ⟨bW, x0, x1, sW⟩ := two_boxes w (cO b now a n c) (rO 0 ⟨#[]⟩ 0 (.slice none 0 0)) ⟨_, _, rfl⟩
  rw [← hW] at bW x0 x1 sW
  have HH := hid_of h
  have HB := hid_of bW
  have HX0 := hid_of x0
  have HX1 := hid_of x1
  have HSW := hid_of sW
  have HW := hid_of hW
  have t0 : KCmd.Tmp w W w.heap.size := ⟨Nat.le_refl _, by rw [HSW.out]; omega⟩
  have t1 : KCmd.Tmp w W (w.heap.size + 1) := ⟨by omega, by rw [HSW.out]; omega⟩
  have H1 := hid_of (hE W (fun k => X k ∨ KCmd.Tmp w W k) (sp_wide h bW) bW)
  obtain ⟨⟨c0, c1, c2⟩, -⟩ := box3 x0
  unfold kV at H1
  clear hW bW x0 x1 sW h hE
  go_enter Tryz.func49, Tryz.ntmps49
  go_wp2_with fail
  rw [← HW.out]
  go_wp2_with fail
  refine H1.out.mono ?_
  rintro e w2 ⟨rfl, d2⟩
  have D2 := hid_of d2
  clear d2
  have z2 := (dn_block HH.out HB.out D2.out t1).trans HX1.out
  have hz := fin4_at z2 (.int .i64 k) (.string T) (.int .i64 m) (.slice none 0 0)
  have hdn := dn_tmp HH.out HB.out D2.out (ev_fin4 t1 (.int .i64 k) (.string T) (.int .i64 m) (.slice none 0 0))
  unfold fin4 at hz hdn
  obtain ⟨⟨v0, v1, v2, v3⟩, fv⟩ := box4 z2
  have fv0 := fv 0
  have fv1 := fv 1
  have fv2 := fv 2
  have fv3 := fv 3
  clear fv z2
  go_wp2_with fail
  obtain ⟨⟨g0, g1, g2, g3⟩, -⟩ := box4 hz
  exact bodyPost_ret (v := (rp k T m)) (by simp [results, Tryz.results49, go_sem, g0, g1, g2, g3]) rfl ⟨rfl, hdn⟩
set_option maxHeartbeats 4000000 in
set_option maxRecDepth 100000 in
theorem expireAtSecond_call (h : SP F X b w S) (now : Int) (a : Option Addr) (n c : Nat) {k m : Int} {T : ByteArray} {S' : Sp} (hE : ∀ V (X' : Nat → Prop), SP F X' b V S → Below w.heap.size w V → Calls Tryz.prog 77 #[cV b now a n c, kV 0 1000] V fun e w' => e = .returned (rp k T m) ∧ Dn F X' b V w' S') :
    Calls Tryz.prog 44 #[cV b now a n c] w fun e w' => e = .returned (rp k T m) ∧ Dn F X b w w' S' := by
  obtain ⟨W, hW⟩ : ∃ W, W = (w.alloc (cO b now a n c)).alloc (rO 0 ⟨#[]⟩ 0 (.slice none 0 0)) := ⟨_, rfl⟩
  obtain ⟨bW, x0, x1, sW⟩ := two_boxes w (cO b now a n c) (rO 0 ⟨#[]⟩ 0 (.slice none 0 0)) ⟨_, _, rfl⟩
  rw [← hW] at bW x0 x1 sW
  have HH := hid_of h
  have HB := hid_of bW
  have HX0 := hid_of x0
  have HX1 := hid_of x1
  have HSW := hid_of sW
  have HW := hid_of hW
  have t0 : KCmd.Tmp w W w.heap.size := ⟨Nat.le_refl _, by rw [HSW.out]; omega⟩
  have t1 : KCmd.Tmp w W (w.heap.size + 1) := ⟨by omega, by rw [HSW.out]; omega⟩
  have H1 := hid_of (hE W (fun k => X k ∨ KCmd.Tmp w W k) (sp_wide h bW) bW)
  obtain ⟨⟨c0, c1, c2⟩, -⟩ := box3 x0
  unfold kV at H1
  clear hW bW x0 x1 sW h hE
  go_enter Tryz.func44, Tryz.ntmps44
  go_wp2_with fail
  rw [← HW.out]
  go_wp2_with fail
  refine H1.out.mono ?_
  rintro e w2 ⟨rfl, d2⟩
  have D2 := hid_of d2
  clear d2
  have z2 := (dn_block HH.out HB.out D2.out t1).trans HX1.out
  have hz := fin4_at z2 (.int .i64 k) (.string T) (.int .i64 m) (.slice none 0 0)
  have hdn := dn_tmp HH.out HB.out D2.out (ev_fin4 t1 (.int .i64 k) (.string T) (.int .i64 m) (.slice none 0 0))
  unfold fin4 at hz hdn
  obtain ⟨⟨v0, v1, v2, v3⟩, fv⟩ := box4 z2
  have fv0 := fv 0
  have fv1 := fv 1
  have fv2 := fv 2
  have fv3 := fv 3
  clear fv z2
  go_wp2_with fail
  obtain ⟨⟨g0, g1, g2, g3⟩, -⟩ := box4 hz
  exact bodyPost_ret (v := (rp k T m)) (by simp [results, Tryz.results44, go_sem, g0, g1, g2, g3]) rfl ⟨rfl, hdn⟩
set_option maxHeartbeats 4000000 in
set_option maxRecDepth 100000 in
theorem expireAtTick_call (h : SP F X b w S) (now : Int) (a : Option Addr) (n c : Nat) {k m : Int} {T : ByteArray} {S' : Sp} (hE : ∀ V (X' : Nat → Prop), SP F X' b V S → Below w.heap.size w V → Calls Tryz.prog 77 #[cV b now a n c, kV 0 1] V fun e w' => e = .returned (rp k T m) ∧ Dn F X' b V w' S') :
    Calls Tryz.prog 50 #[cV b now a n c] w fun e w' => e = .returned (rp k T m) ∧ Dn F X b w w' S' := by
  obtain ⟨W, hW⟩ : ∃ W, W = (w.alloc (cO b now a n c)).alloc (rO 0 ⟨#[]⟩ 0 (.slice none 0 0)) := ⟨_, rfl⟩
  obtain ⟨bW, x0, x1, sW⟩ := two_boxes w (cO b now a n c) (rO 0 ⟨#[]⟩ 0 (.slice none 0 0)) ⟨_, _, rfl⟩
  rw [← hW] at bW x0 x1 sW
  have HH := hid_of h
  have HB := hid_of bW
  have HX0 := hid_of x0
  have HX1 := hid_of x1
  have HSW := hid_of sW
  have HW := hid_of hW
  have t0 : KCmd.Tmp w W w.heap.size := ⟨Nat.le_refl _, by rw [HSW.out]; omega⟩
  have t1 : KCmd.Tmp w W (w.heap.size + 1) := ⟨by omega, by rw [HSW.out]; omega⟩
  have H1 := hid_of (hE W (fun k => X k ∨ KCmd.Tmp w W k) (sp_wide h bW) bW)
  obtain ⟨⟨c0, c1, c2⟩, -⟩ := box3 x0
  unfold kV at H1
  clear hW bW x0 x1 sW h hE
  go_enter Tryz.func50, Tryz.ntmps50
  go_wp2_with fail
  rw [← HW.out]
  go_wp2_with fail
  refine H1.out.mono ?_
  rintro e w2 ⟨rfl, d2⟩
  have D2 := hid_of d2
  clear d2
  have z2 := (dn_block HH.out HB.out D2.out t1).trans HX1.out
  have hz := fin4_at z2 (.int .i64 k) (.string T) (.int .i64 m) (.slice none 0 0)
  have hdn := dn_tmp HH.out HB.out D2.out (ev_fin4 t1 (.int .i64 k) (.string T) (.int .i64 m) (.slice none 0 0))
  unfold fin4 at hz hdn
  obtain ⟨⟨v0, v1, v2, v3⟩, fv⟩ := box4 z2
  have fv0 := fv 0
  have fv1 := fv 1
  have fv2 := fv 2
  have fv3 := fv 3
  clear fv z2
  go_wp2_with fail
  obtain ⟨⟨g0, g1, g2, g3⟩, -⟩ := box4 hz
  exact bodyPost_ret (v := (rp k T m)) (by simp [results, Tryz.results50, go_sem, g0, g1, g2, g3]) rfl ⟨rfl, hdn⟩
end
end Go.Proofs.YtminfpkigenahaaGreatDoor.KExw
end
