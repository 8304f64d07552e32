/- Commands on keys: what is laid under another key; RENAME. What the laws of keycmd ask with: run, isInt, isErr, text. A row of answers that are texts, and one more behind it. -/
import Derived.Test.YtminfpkigenahaaGreatDoorParseM
import Derived.Test.YtminfpkigenahaaGreatDoorSTouchM
import Derived.BigQuiet
import Derived.Deep.DeepAppendWide
section
namespace Go.Proofs.YtminfpkigenahaaGreatDoor.KMv
open Go.RowKit Go.Maps
open Go.Proofs.YtminfpkigenahaaGreatDoor.SpaceMath (wout withL lkp keys Ris toD)
open Go.Proofs.YtminfpkigenahaaGreatDoor.ValueMath (Vl chk small)
open Go.Proofs.YtminfpkigenahaaGreatDoor.Base (mk mk_list mk_size Gr hid_of SL)
open Go.Proofs.YtminfpkigenahaaGreatDoor.Turn
open Go.Proofs.YtminfpkigenahaaGreatDoor.Vals
open Go.Proofs.YtminfpkigenahaaGreatDoor.Check0 (Wel)
open Go.Proofs.YtminfpkigenahaaGreatDoor.SBase
open Go.Proofs.YtminfpkigenahaaGreatDoor.SFind
open Go.Proofs.YtminfpkigenahaaGreatDoor.SPut (vO)
open Go.Proofs.YtminfpkigenahaaGreatDoor.QBase
open Go.Proofs.YtminfpkigenahaaGreatDoor.KCmd
open Go.Proofs.YtminfpkigenahaaGreatDoor.Parse (Has)
set_option linter.unusedVariables false
set_option linter.unusedSimpArgs false
open Go.Proofs.YtminfpkigenahaaGreatDoor.KEx
/-- what a space holds may be -/
theorem en_gd {F X : Nat → Prop} {b : Nat} {w : World} {S : Sp} (h0 : SP F X b w S) (k : Bs) (now : Int) {e : En} (hg : gt S now k = some e) : Gd e.val ∧ 0 ≤ e.due ∧ e.due ≤ 9007199254740992 := by
  obtain ⟨FI, bm, bi, mv, L, s, h⟩ := h0
  have he := h.ent k
  rw [(gt_some hg).1] at he
  cases q : lkp L k with
  | none => rw [q] at he; exact absurd he (by simp [Two])
  | some v =>
    rw [q] at he
    exact ⟨EnAt.gd he, EnAt.due he⟩
theorem one_box (w : World) (o : Obj) : Below w.heap.size w (w.alloc o) ∧ (w.alloc o).heap[w.heap.size]? = some o ∧ (w.alloc o).heap.size = w.heap.size + 1 := ⟨alb _ _, heap_alloc_new w o, by simp⟩
abbrev laidS (S : Sp) (k : Bs) (en : En) : Sp := ⟨withL S.l k ⟨en.val, en.due, S.cnt + 1⟩, S.cnt + 1, none⟩
section
variable {F X : Nat → Prop} {b : Nat} {w : World} {S : Sp}
set_option maxHeartbeats 4000000 in
set_option maxRecDepth 100000 in
theorem lay_call (h : SP F X b w S) (hr : Room S) (now : Int) (a : Option Addr) (n c : Nat) (k1 k2 : Bs) (hk1 : k1.length ≤ 281474976710656) (hk2 : k2.length ≤ 281474976710656) {en : En} (hg : gt S now k1 = some en) :
    Calls Tryz.prog 70 #[cV b now a n c, .string (mk k1), .string (mk k2)] w fun e w' => e = .returned (.tuple #[]) ∧ Dn F X b w w' (laidS S k2 en) := by
  obtain ⟨hgd, hd⟩ := en_gd h k1 now hg
  obtain ⟨W, hW⟩ : ∃ W, W = w.alloc (cO b now a n c) := ⟨_, rfl⟩
  obtain ⟨bW, x0, sW⟩ := one_box w (cO b now a n c)
  rw [← hW] at bW x0 sW
  have HH := hid_of h
  have HB := hid_of bW
  have HX0 := hid_of x0
  have HW := hid_of hW
  have H1 := hid_of (get_yes (sp_wide h bW) k1 hk1 now hg)
  have H2 := hid_of fun (V : World) (hV : Below W.heap.size W V) => QBase.due_call ((sp_wide h bW).below hV) k1 hk1 now
  have hdv : dueV S now k1 = en.due := by unfold dueV; rw [hg]; rfl
  rw [hdv, hg] at H2
  simp only [Option.isSome_some] at H2
  have H3 := hid_of fun (V : World) (hV : Below W.heap.size W V) (v : Value) (hv : VA V v en.val) => SPut.put_ok ((sp_wide h bW).below hV) hr.m hr.c hr.n k2 hk2 hv hgd.wel hgd.sm hgd.chk en.due hd
  have HBx : Hid (∀ V, Below W.heap.size W V → V.cell? ⟨w.heap.size, 0, none⟩ = some (ptr b) ∧ V.cell? ⟨w.heap.size, 1, none⟩ = some (.int .i64 now) ∧ V.cell? ⟨w.heap.size, 2, none⟩ = some (.slice a n c)) := hid_of fun V hV => (box3 ((hV.block _ (lt_of HX0.out)).trans HX0.out)).1
  obtain ⟨c0, c1, c2⟩ := HBx.out W (Below.refl _ W)
  clear hW bW x0 sW h hg hdv hgd
  unfold laidS
  generalize mk k1 = K1 at *
  generalize mk k2 = K2 at *
  go_enter Tryz.func70, Tryz.ntmps70
  go_wp2_with fail
  rw [← HW.out]
  go_wp2_with fail
  refine H1.out.mono ?_
  rintro e w1 ⟨u, rfl, hu, b1⟩
  obtain ⟨a1, n1, p1, a2, n2, p2, a3, n3, p3, rfl⟩ := vn_form hu
  have hva := hu.va
  obtain ⟨w2, hw2⟩ : ∃ w2, w2 = w1.alloc (vO en.val.kind (mk en.val.text) (.slice a1 n1 p1) (.slice a2 n2 p2) (.slice a3 n3 p3)) := ⟨_, rfl⟩
  have b2 : Below w1.heap.size w1 w2 := by rw [hw2]; exact alb _ _
  have z2 : w2.heap[w1.heap.size]? = some (vO en.val.kind (mk en.val.text) (.slice a1 n1 p1) (.slice a2 n2 p2) (.slice a3 n3 p3)) := by rw [hw2]; exact heap_alloc_new w1 _
  have B2 := hid_of (b1.trans (b2.mono b1.size))
  have VA2 := hid_of (hva.below b2)
  have Z2 := hid_of z2
  have HW2 := hid_of hw2
  obtain ⟨d0, d1, d2⟩ := HBx.out w1 b1
  have hlt1 : w.heap.size < w1.heap.size := block_lt_of_cell d0
  generalize en.val.kind = vk at *
  generalize mk en.val.text = vt at *
  clear hu hva b1 b2 z2 hw2 H1 c0 c1 c2
  go_wp2_with fail
  rw [← HW2.out]
  refine (H2.out _ B2.out).mono ?_
  rintro e w3 ⟨rfl, b3⟩
  have B3 := hid_of (B2.out.trans (b3.mono B2.out.size))
  obtain ⟨⟨y0, y1, y2, y3, y4⟩, -⟩ := box5 ((b3.block _ (lt_of Z2.out)).trans Z2.out)
  obtain ⟨q0, q1, q2⟩ := HBx.out w3 B3.out
  have H4 := hid_of (H3.out w3 B3.out _ (VA2.out.below b3))
  clear b3 H2 H3 d0 d1 d2
  go_wp2_with fail
  refine H4.out.mono ?_
  rintro e w4 ⟨rfl, d4⟩
  have D4 := hid_of (dn_tmp HH.out HB.out (SDrop.dn_after B3.out d4) (Ev.refl _ _))
  clear d4
  go_wp2_with fail
  go_end0
  exact ⟨rfl, D4.out⟩
abbrev movedS (S : Sp) (k1 k2 : Bs) (en : En) : Sp := ⟨wout (laidS S k2 en).l k1, S.cnt + 1 + 1, none⟩
set_option maxHeartbeats 4000000 in
set_option maxRecDepth 100000 in
theorem move_call (h : SP F X b w S) (hr : Room S) (hc2 : S.cnt + 2 < 18446744073709551616) (now : Int) (a : Option Addr) (n c : Nat) (k1 k2 : Bs) (hk1 : k1.length ≤ 281474976710656) (hk2 : k2.length ≤ 281474976710656) (hne : k1 ≠ k2) {en : En} (hg : gt S now k1 = some en) :
    Calls Tryz.prog 86 #[cV b now a n c, .string (mk k1), .string (mk k2)] w fun e w' => e = .returned (.tuple #[]) ∧ Dn F X b w w' (movedS S k1 k2 en) := by
  obtain ⟨W, hW⟩ : ∃ W, W = w.alloc (cO b now a n c) := ⟨_, rfl⟩
  obtain ⟨bW, x0, sW⟩ := one_box w (cO b now a n c)
  rw [← hW] at bW x0 sW
  have HH := hid_of h
  have HB := hid_of bW
  have HX0 := hid_of x0
  have HW := hid_of hW
  have t0 : KCmd.Tmp w W w.heap.size := ⟨Nat.le_refl _, by rw [sW]; omega⟩
  have H1 := hid_of (lay_call (sp_wide h bW) hr now a n c k1 k2 hk1 hk2 hg)
  have hlk : lkp (laidS S k2 en).l k1 = some en := by
    show lkp (withL S.l k2 _) k1 = _
    rw [SpaceMath.lkp_with, if_neg (Ne.symm hne)]
    exact (gt_some hg).1
  have H2 : Hid (∀ V, Dn F (fun k => X k ∨ KCmd.Tmp w W k) b W V (laidS S k2 en) → Calls Tryz.prog 72 #[ptr b, .string (mk k1)] V fun e w' => e = .returned (.bool true) ∧ Dn F (fun k => X k ∨ KCmd.Tmp w W k) b W w' (movedS S k1 k2 en)) := hid_of fun V D => wr_dn D fun F1 s1 => SDrop.drop_yes s1 rfl hc2 k1 hk1 hlk
  have hneq : ((mk k1).toList == (mk k2).toList) = false := by rw [mk_list, mk_list]; simpa using hne
  obtain ⟨⟨c0, c1, c2⟩, -⟩ := box3 x0
  clear hW bW x0 sW h hg hlk hne
  generalize mk k1 = K1 at *
  generalize mk k2 = K2 at *
  go_enter Tryz.func86, Tryz.ntmps86
  go_wp2_with fail
  rw [← HW.out]
  go_wp2_with fail
  refine H1.out.mono ?_
  rintro e w1 ⟨rfl, d1⟩
  have D1 := hid_of d1
  obtain ⟨⟨e0, e1, e2⟩, -⟩ := box3 ((dn_block HH.out HB.out d1 t0).trans HX0.out)
  clear d1 c0 c1 c2
  go_wp2_with fail
  refine (H2.out _ D1.out).mono ?_
  rintro e w2 ⟨rfl, d2⟩
  have D2 := hid_of (dn_tmp HH.out HB.out d2 (Ev.refl _ _))
  clear d2
  go_wp2_with fail
  go_end0
  exact ⟨rfl, D2.out⟩
set_option maxHeartbeats 4000000 in
set_option maxRecDepth 100000 in
theorem rename_no (h : SP F X b w S) (now : Int) {G : Nat → Prop} {a : Option Addr} {n c : Nat} {l : List Base.El} (hl : SL G w (.slice a n c) l) (hl1 : 1 < l.length) (hk1 : l[0].length ≤ 281474976710656) (hg : gt S now l[0] = none) :
    Calls Tryz.prog 54 #[cV b now a n c] w fun e w' => e = .returned (rp 2 nokB 0) ∧ Dn F X b w w' S := by
  obtain ⟨rfl, hcs⟩ := sl_get hl
  obtain ⟨ga, oa, rfl, hc0⟩ := hcs 0 (by omega)
  rw [Nat.add_zero] at hc0
  have hga : ga < w.heap.size := Base.cell_lt hc0
  obtain ⟨ga1, oa1, ea1, hc1⟩ := hcs 1 (by omega)
  obtain ⟨rfl, rfl⟩ : ga = ga1 ∧ oa = oa1 := by injection ea1 with ea1; injection ea1 with e1 e2; exact ⟨e1, e2⟩
  obtain ⟨W, hW⟩ : ∃ W, W = (w.alloc (cO b now (some ⟨ga, oa, none⟩) l.length c)).alloc (rO 0 ⟨#[]⟩ 0 (.slice none 0 0)) := ⟨_, rfl⟩
  obtain ⟨bW, x0, x1, sW⟩ := two_boxes w (cO b now (some ⟨ga, oa, none⟩) l.length c) (rO 0 ⟨#[]⟩ 0 (.slice none 0 0)) ⟨_, _, rfl⟩
  rw [← hW] at bW x0 x1 sW
  have HH := hid_of h
  have HB := hid_of bW
  have HX0 := hid_of x0
  have HX1 := hid_of x1
  have HSW := hid_of sW
  have HW := hid_of hW
  have t0 : KCmd.Tmp w W w.heap.size := ⟨Nat.le_refl _, by rw [HSW.out]; omega⟩
  have t1 : KCmd.Tmp w W (w.heap.size + 1) := ⟨by omega, by rw [HSW.out]; omega⟩
  obtain ⟨⟨c0, c1, c2⟩, -⟩ := box3 x0
  have cw0 := (bW.cell (p := ⟨ga, oa, none⟩) hga).trans hc0
  have cw1 := (bW.cell (p := ⟨ga, oa + 1, none⟩) (block_lt_of_cell hc1)).trans hc1
  have HT := hid_of fun (V : World) (hV : Below W.heap.size W V) => there_call ((sp_wide h bW).below hV) l[0] hk1 now (some ⟨ga, oa, none⟩) l.length c
  rw [hg] at HT
  have hlb : (1 : Int) < (l.length : Int) := by omega
  have hlb0 : (0 : Int) < (l.length : Int) := by omega
  have HR := hid_of fun (V : World) => refused_call nokB V
  simp only [Option.isSome_none] at HT
  clear hW bW x0 x1 sW h hcs hl hg hc0 hc1 ea1
  generalize mk l[0] = K1 at *
  generalize mk l[1] = K2 at *
  go_enter Tryz.func54, Tryz.ntmps54
  go_wp2_with fail
  rw [← HW.out]
  go_wp2_with fail
  go_quiet (fail)
  go_wp2_with fail
  refine (HT.out (W.drewN nq) (⟨rfl, rfl, rfl, Nat.le_refl _, fun _ _ => rfl⟩ : Below W.heap.size W (W.drewN nq))).mono ?_
  rintro e w1 ⟨rfl, b1⟩
  have B1 : Hid (Below W.heap.size W w1) := hid_of (FRow.bel (⟨rfl, rfl, rfl, Nat.le_refl _, fun _ _ => rfl⟩ : Below W.heap.size W (W.drewN nq)) b1 (Nat.le_refl _))
  clear b1
  go_wp2_with fail
  refine (HR.out _).mono ?_
  rintro e w2 ⟨rfl, b2⟩
  have D2 := Dn.of (sp_wide HH.out HB.out) (FRow.bel B1.out b2 (Nat.le_refl _))
  have z2 := (dn_block HH.out HB.out D2 t1).trans HX1.out
  have hz := fin4_at z2 (.int .i64 2) (.string nokB) (.int .i64 0) (.slice none 0 0)
  have hdn := dn_tmp HH.out HB.out D2 (ev_fin4 t1 (.int .i64 2) (.string nokB) (.int .i64 0) (.slice none 0 0))
  unfold fin4 at hz hdn
  obtain ⟨⟨v0, v1, v2, v3⟩, fv⟩ := box4 z2
  have fv0 := fv 0
  have fv1 := fv 1
  have fv2 := fv 2
  have fv3 := fv 3
  clear fv z2
  go_wp2_with fail
  obtain ⟨⟨g0, g1, g2, g3⟩, -⟩ := box4 hz
  exact bodyPost_ret (v := (rp 2 nokB 0)) (by simp [results, Tryz.results54, go_sem, g0, g1, g2, g3]) rfl ⟨rfl, hdn⟩
set_option maxHeartbeats 4000000 in
set_option maxRecDepth 100000 in
theorem rename_yes (h : SP F X b w S) (hr : Room S) (hc2 : S.cnt + 2 < 18446744073709551616) (now : Int) {G : Nat → Prop} {a : Option Addr} {n c : Nat} {l : List Base.El} (hl : SL G w (.slice a n c) l) (hl1 : 1 < l.length) (hk1 : l[0].length ≤ 281474976710656) (hk2 : l[1].length ≤ 281474976710656) (hne : l[0] ≠ l[1]) {en : En} (hg : gt S now l[0] = some en) :
    Calls Tryz.prog 54 #[cV b now a n c] w fun e w' => e = .returned (rp 1 okB 0) ∧ Dn F X b w w' (movedS S l[0] l[1] en) := by
  obtain ⟨rfl, hcs⟩ := sl_get hl
  obtain ⟨ga, oa, rfl, hc0⟩ := hcs 0 (by omega)
  rw [Nat.add_zero] at hc0
  have hga : ga < w.heap.size := Base.cell_lt hc0
  obtain ⟨ga1, oa1, ea1, hc1⟩ := hcs 1 (by omega)
  obtain ⟨rfl, rfl⟩ : ga = ga1 ∧ oa = oa1 := by injection ea1 with ea1; injection ea1 with e1 e2; exact ⟨e1, e2⟩
  obtain ⟨W, hW⟩ : ∃ W, W = (w.alloc (cO b now (some ⟨ga, oa, none⟩) l.length c)).alloc (rO 0 ⟨#[]⟩ 0 (.slice none 0 0)) := ⟨_, rfl⟩
  obtain ⟨bW, x0, x1, sW⟩ := two_boxes w (cO b now (some ⟨ga, oa, none⟩) l.length c) (rO 0 ⟨#[]⟩ 0 (.slice none 0 0)) ⟨_, _, rfl⟩
  rw [← hW] at bW x0 x1 sW
  have HH := hid_of h
  have HB := hid_of bW
  have HX0 := hid_of x0
  have HX1 := hid_of x1
  have HSW := hid_of sW
  have HW := hid_of hW
  have t0 : KCmd.Tmp w W w.heap.size := ⟨Nat.le_refl _, by rw [HSW.out]; omega⟩
  have t1 : KCmd.Tmp w W (w.heap.size + 1) := ⟨by omega, by rw [HSW.out]; omega⟩
  obtain ⟨⟨c0, c1, c2⟩, -⟩ := box3 x0
  have cw0 := (bW.cell (p := ⟨ga, oa, none⟩) hga).trans hc0
  have cw1 := (bW.cell (p := ⟨ga, oa + 1, none⟩) (block_lt_of_cell hc1)).trans hc1
  have HT := hid_of fun (V : World) (hV : Below W.heap.size W V) => there_call ((sp_wide h bW).below hV) l[0] hk1 now (some ⟨ga, oa, none⟩) l.length c
  rw [hg] at HT
  have hlb : (1 : Int) < (l.length : Int) := by omega
  have hlb0 : (0 : Int) < (l.length : Int) := by omega
  have HM := hid_of fun (V : World) (hV : Below W.heap.size W V) => move_call ((sp_wide h bW).below hV) hr hc2 now (some ⟨ga, oa, none⟩) l.length c l[0] l[1] hk1 hk2 hne hg
  have HO := hid_of fun (V : World) => ok_call V
  simp only [Option.isSome_some] at HT
  have HBx : Hid (∀ V, Below W.heap.size W V → V.cell? ⟨w.heap.size, 0, none⟩ = some (ptr b) ∧ V.cell? ⟨w.heap.size, 1, none⟩ = some (.int .i64 now) ∧ V.cell? ⟨w.heap.size, 2, none⟩ = some (.slice (some ⟨ga, oa, none⟩) l.length c)) := hid_of fun V hV => (box3 ((hV.block _ (lt_of HX0.out)).trans HX0.out)).1
  clear hW bW x0 x1 sW h hcs hl hg hc0 hc1 ea1
  generalize movedS S l[0] l[1] en = S2 at *
  generalize mk l[0] = K1 at *
  generalize mk l[1] = K2 at *
  go_enter Tryz.func54, Tryz.ntmps54
  go_wp2_with fail
  rw [← HW.out]
  go_wp2_with fail
  go_quiet (fail)
  go_wp2_with fail
  refine (HT.out (W.drewN nq) (⟨rfl, rfl, rfl, Nat.le_refl _, fun _ _ => rfl⟩ : Below W.heap.size W (W.drewN nq))).mono ?_
  rintro e w1 ⟨rfl, b1⟩
  have B1 : Hid (Below W.heap.size W w1) := hid_of (FRow.bel (⟨rfl, rfl, rfl, Nat.le_refl _, fun _ _ => rfl⟩ : Below W.heap.size W (W.drewN nq)) b1 (Nat.le_refl _))
  clear b1
  obtain ⟨e0, e1, e2⟩ := HBx.out w1 B1.out
  go_wp2_with fail
  refine (HM.out _ B1.out).mono ?_
  rintro e w2 ⟨rfl, d2⟩
  have D2 := hid_of (SDrop.dn_after B1.out d2)
  clear d2
  go_wp2_with fail
  refine (HO.out _).mono ?_
  rintro e w3 ⟨rfl, b3⟩
  have D3 := SDrop.dn_below D2.out b3
  clear b3
  have z2 := (dn_block HH.out HB.out D3 t1).trans HX1.out
  have hz := fin4_at z2 (.int .i64 1) (.string okB) (.int .i64 0) (.slice none 0 0)
  have hdn := dn_tmp HH.out HB.out D3 (ev_fin4 t1 (.int .i64 1) (.string okB) (.int .i64 0) (.slice none 0 0))
  unfold fin4 at hz hdn
  obtain ⟨⟨v0, v1, v2, v3⟩, fv⟩ := box4 z2
  have fv0 := fv 0
  have fv1 := fv 1
  have fv2 := fv 2
  have fv3 := fv 3
  clear fv z2
  go_wp2_with fail
  obtain ⟨⟨g0, g1, g2, g3⟩, -⟩ := box4 hz
  exact bodyPost_ret (v := (rp 1 okB 0)) (by simp [results, Tryz.results54, go_sem, g0, g1, g2, g3]) rfl ⟨rfl, hdn⟩
end
end Go.Proofs.YtminfpkigenahaaGreatDoor.KMv
end
section
namespace Go.Proofs.YtminfpkigenahaaGreatDoor.KLaw
open Go.RowKit Go.Maps
open Go.Proofs.YtminfpkigenahaaGreatDoor.SpaceMath (wout withL lkp keys Ris toD)
open Go.Proofs.YtminfpkigenahaaGreatDoor.ValueMath (Vl chk small)
open Go.Proofs.YtminfpkigenahaaGreatDoor.Base (mk mk_list mk_size Gr hid_of SL)
open Go.Proofs.YtminfpkigenahaaGreatDoor.Turn
open Go.Proofs.YtminfpkigenahaaGreatDoor.Vals
open Go.Proofs.YtminfpkigenahaaGreatDoor.Check0 (Wel)
open Go.Proofs.YtminfpkigenahaaGreatDoor.SBase
open Go.Proofs.YtminfpkigenahaaGreatDoor.SFind
open Go.Proofs.YtminfpkigenahaaGreatDoor.SPut (vO)
open Go.Proofs.YtminfpkigenahaaGreatDoor.QBase
open Go.Proofs.YtminfpkigenahaaGreatDoor.KCmd
open Go.Proofs.YtminfpkigenahaaGreatDoor.Parse (Has)
set_option linter.unusedVariables false
set_option linter.unusedSimpArgs false
open Go.Proofs.YtminfpkigenahaaGreatDoor.KEx
open Go.Proofs.YtminfpkigenahaaGreatDoor.KMv
section
variable {F X : Nat → Prop} {b : Nat} {w : World} {S : Sp}
set_option maxHeartbeats 4000000 in
set_option maxRecDepth 100000 in
theorem isInt_call (k n m : Int) (T : ByteArray) (w : World) :
    Calls Tryz.prog 7 #[rp k T n, .int .i64 m] w fun e w' => e = .returned (.bool (k == 3 && n == m)) ∧ Below w.heap.size w w' := by
  obtain ⟨W, hW⟩ : ∃ W, W = w.alloc (rO k T n (.slice none 0 0)) := ⟨_, rfl⟩
  obtain ⟨bW, x0, sW⟩ := one_box w (rO k T n (.slice none 0 0))
  rw [← hW] at bW x0 sW
  have HB := hid_of bW
  have HW := hid_of hW
  obtain ⟨⟨c0, c1, c2, c3⟩, -⟩ := box4 x0
  clear hW bW x0 sW
  by_cases hk : k = 3
  · subst hk
    have e1 : ((3 : Int) == 3) = true := rfl
    rw [e1, Bool.true_and]
    go_enter Tryz.func7, Tryz.ntmps7
    go_wp2_with fail
    rw [← HW.out]
    go_wp2_with fail
    go_ret
    exact ⟨rfl, HB.out⟩
  · have e1 : (k == 3) = false := by simp [hk]
    rw [e1, Bool.false_and]
    go_enter Tryz.func7, Tryz.ntmps7
    go_wp2_with fail
    rw [← HW.out]
    go_wp2_with fail
    go_ret
    exact ⟨rfl, HB.out⟩
set_option maxHeartbeats 4000000 in
set_option maxRecDepth 100000 in
theorem isErr_yes (T : ByteArray) (n : Int) (w : World) :
    Calls Tryz.prog 18 #[rp 2 T n, .string T] w fun e w' => e = .returned (.bool true) ∧ Below w.heap.size w w' := by
  obtain ⟨W, hW⟩ : ∃ W, W = w.alloc (rO 2 T n (.slice none 0 0)) := ⟨_, rfl⟩
  obtain ⟨bW, x0, sW⟩ := one_box w (rO 2 T n (.slice none 0 0))
  rw [← hW] at bW x0 sW
  have HB := hid_of bW
  have HW := hid_of hW
  have hTT : (T.toList == T.toList) = true := by simp
  obtain ⟨⟨c0, c1, c2, c3⟩, -⟩ := box4 x0
  clear hW bW x0 sW
  go_enter Tryz.func18, Tryz.ntmps18
  go_wp2_with fail
  rw [← HW.out]
  go_wp2_with fail
  go_ret
  exact ⟨rfl, HB.out⟩
set_option maxHeartbeats 4000000 in
set_option maxRecDepth 100000 in
theorem run_call (h : SP F X b w S) (now : Int) (a : Option Addr) (n c : Nat) {S' : Sp} (rk rn : Int) (rT : ByteArray) (hE : ∀ V (X' : Nat → Prop), SP F X' b V S → Below w.heap.size w V → Calls Tryz.prog 17 #[ptr b, .int .i64 now, .slice a n c] V fun e w' => e = .returned (.tuple #[rp rk rT rn, .bool true]) ∧ Dn F X' b V w' S') :
    Calls Tryz.prog 8 #[ptr b, .int .i64 now, .slice a n c] w fun e w' => e = .returned (rp rk rT rn) ∧ Dn F X b w w' S' := by
  obtain ⟨W, hW⟩ : ∃ W, W = w.alloc (rO 0 ⟨#[]⟩ 0 (.slice none 0 0)) := ⟨_, rfl⟩
  obtain ⟨bW, x0, sW⟩ := one_box w (rO 0 ⟨#[]⟩ 0 (.slice none 0 0))
  rw [← hW] at bW x0 sW
  have HH := hid_of h
  have HB := hid_of bW
  have HX0 := hid_of x0
  have HSW := hid_of sW
  have HW := hid_of hW
  have t0 : KCmd.Tmp w W w.heap.size := ⟨Nat.le_refl _, by rw [HSW.out]; omega⟩
  have H1 := hid_of (hE W (fun k => X k ∨ KCmd.Tmp w W k) (sp_wide h bW) bW)
  clear hW bW x0 sW h hE
  go_enter Tryz.func8, Tryz.ntmps8
  go_wp2_with fail
  rw [← HW.out]
  go_wp2_with fail
  refine H1.out.mono ?_
  rintro e w1 ⟨rfl, d1⟩
  have hl1 : w.heap.size < w1.heap.size := Nat.lt_of_lt_of_le t0.2 (dn_size d1)
  have z2 := (dn_block HH.out HB.out d1 t0).trans HX0.out
  have hz := fin4_at z2 (.int .i64 rk) (.string rT) (.int .i64 rn) (.slice none 0 0)
  have hdn := dn_tmp HH.out HB.out d1 (ev_fin4 t0 (.int .i64 rk) (.string rT) (.int .i64 rn) (.slice none 0 0))
  have hz2 := ((alb _ (rO rk rT rn (.slice none 0 0))).block _ (lt_of hz)).trans hz
  have hdn2 := SDrop.dn_below hdn (alb _ (rO rk rT rn (.slice none 0 0)))
  unfold fin4 at hz2 hdn2
  obtain ⟨⟨v0, v1, v2, v3⟩, fv⟩ := box4 z2
  have fv0 := fv 0
  have fv1 := fv 1
  have fv2 := fv 2
  have fv3 := fv 3
  clear fv z2 hz hdn d1
  go_wp2_with fail
  obtain ⟨⟨g0, g1, g2, g3⟩, -⟩ := box4 hz2
  exact bodyPost_ret (v := (rp rk rT rn)) (by simp [results, Tryz.results8, go_sem, g0, g1, g2, g3]) rfl ⟨rfl, hdn2⟩
end
end Go.Proofs.YtminfpkigenahaaGreatDoor.KLaw
end
section
namespace Go.Proofs.YtminfpkigenahaaGreatDoor.KRow
open Go.RowKit Go.Maps
open Go.Proofs.YtminfpkigenahaaGreatDoor.SpaceMath (wout withL lkp keys Ris toD)
open Go.Proofs.YtminfpkigenahaaGreatDoor.ValueMath (Vl chk small)
open Go.Proofs.YtminfpkigenahaaGreatDoor.Base (mk mk_list mk_size Gr hid_of SL)
open Go.Proofs.YtminfpkigenahaaGreatDoor.Turn
open Go.Proofs.YtminfpkigenahaaGreatDoor.Vals
open Go.Proofs.YtminfpkigenahaaGreatDoor.Check0 (Wel)
open Go.Proofs.YtminfpkigenahaaGreatDoor.SBase
open Go.Proofs.YtminfpkigenahaaGreatDoor.SFind
open Go.Proofs.YtminfpkigenahaaGreatDoor.SPut (vO)
open Go.Proofs.YtminfpkigenahaaGreatDoor.QBase
open Go.Proofs.YtminfpkigenahaaGreatDoor.KCmd
open Go.Proofs.YtminfpkigenahaaGreatDoor.Parse (Has)
set_option linter.unusedVariables false
set_option linter.unusedSimpArgs false
open Go.Sort
set_option maxRecDepth 100000
def rep (t : Bs) : List Value := [.int .i64 4, .string (mk t), .int .i64 0, .slice none 0 0]
abbrev RR (B : Nat) (w : World) (v : Value) (l : List Bs) : Prop := w.ownsRow B 35 4 v l.length (l.flatMap rep)
theorem rr_nil (B : Nat) (w : World) : RR B w (.slice none 0 0) [] := World.ownsRow_nil _ _ _ _
theorem info_rp : (Tryz.prog.info? 35).map (fun i => (i.zero, i.size, i.bytes)) = some (some (.agg #[.int .i64 0, .string ⟨#[]⟩, .int .i64 0, .slice none 0 0]), 4, 56) := by kernel_rfl
theorem app_rep (B : Nat) (w : World) (v : Value) (xs : List Bs) (t : Bs) (q : Nat) (h : RR B w v xs) (hq : w.heap[q]? = some (rO 4 (mk t) 0 (.slice none 0 0))) (hb : B ≤ w.heap.size) (hn : xs.length + 1 ≤ 4000000000000) :
    ∃ v' w', (Builtin.append_ #[33, 33] 33 #[v, .slice (some ⟨q, 0, none⟩) 1 1]).run Tryz.prog w = .ok v' w' ∧ RR B w' v' (xs ++ [t]) ∧ w.grownBy w' v.ownBlock := by
  obtain ⟨i, hi, hz0, hz1, hz2⟩ := FRow.parts_of info_rp
  have hnews : ∀ j u, (rep t)[j]? = some u → w.cell? ((⟨q, 0, none⟩ : Addr).add j) = some u := fun j u hj => by
    obtain ⟨⟨c0, c1, c2, c3⟩, -⟩ := box4 hq
    rw [Addr.add_lit]
    match j, hj with
    | 0, hj =>
      have e : (.int .i64 4 : Value) = u := Option.some.inj (show some (.int .i64 4 : Value) = some u from hj)
      subst e
      exact c0
    | 1, hj =>
      have e : (.string (mk t) : Value) = u := Option.some.inj (show some (.string (mk t) : Value) = some u from hj)
      subst e
      exact c1
    | 2, hj =>
      have e : (.int .i64 0 : Value) = u := Option.some.inj (show some (.int .i64 0 : Value) = some u from hj)
      subst e
      exact c2
    | 3, hj =>
      have e : (.slice none 0 0 : Value) = u := Option.some.inj (show some (.slice none 0 0 : Value) = some u from hj)
      subst e
      exact c3
    | j + 4, hj => simp [rep] at hj
  have hone : ∀ u ∈ rep t, u.oneCell' = true := fun u hu => by
    simp only [rep, List.mem_cons, List.not_mem_nil, or_false] at hu
    rcases hu with rfl | rfl | rfl | rfl <;> rfl
  obtain ⟨v', w', hr, ho, hg, _⟩ := run_append_own_wide (P := Tryz.prog) w B 33 33 35 i _ 4 56 Tryz.underlying33 hi hz0 hz1 hz2 rfl (by decide) v xs.length (xs.flatMap rep) h ⟨q, 0, none⟩ 1 1 (rep t) rfl hnews hone (by unfold maxLen; omega) (by omega) hb
  refine ⟨v', w', hr, ?_, hg⟩
  show w'.ownsRow B _ 4 v' (xs ++ [t]).length ((xs ++ [t]).flatMap rep)
  rw [List.length_append, List.flatMap_append]
  simpa using ho
end Go.Proofs.YtminfpkigenahaaGreatDoor.KRow
end
