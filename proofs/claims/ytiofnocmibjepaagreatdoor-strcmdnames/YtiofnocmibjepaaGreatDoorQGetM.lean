/- Commands on strings: GET, APPEND. -/
import Derived.Test.YtiofnocmibjepaaGreatDoorQIncM
import Derived.Deep.DeepCutAuto
import Derived.Deep.RegionHeld3
namespace Go.Proofs.YtiofnocmibjepaaGreatDoor.QGet
open Go.RowKit Go.Maps
open Go.Proofs.YtiofnocmibjepaaGreatDoor.SpaceMath (wout withL lkp keys Ris toD)
open Go.Proofs.YtiofnocmibjepaaGreatDoor.Base (mk mk_list mk_size Gr hid_of SL)
open Go.Proofs.YtiofnocmibjepaaGreatDoor.Turn
open Go.Proofs.YtiofnocmibjepaaGreatDoor.Vals
open Go.Proofs.YtiofnocmibjepaaGreatDoor.SBase
open Go.Proofs.YtiofnocmibjepaaGreatDoor.SFind
open Go.Proofs.YtiofnocmibjepaaGreatDoor.QBase
open Go.Proofs.YtiofnocmibjepaaGreatDoor.QCmd
open Go.Proofs.YtiofnocmibjepaaGreatDoor.QPut
open Go.Proofs.YtiofnocmibjepaaGreatDoor.QAdd
set_option linter.unusedVariables false
set_option linter.unusedSimpArgs false
def getM (s : Sa) : Int × ByteArray × Int := if s.wrong then (2, wrongB, 0) else if s.there then (4, mk s.t, 0) else (5, ⟨#[]⟩, 0)
theorem mk_app (t x : Bs) : mk t ++ mk x = mk (t ++ x) := by
  apply ByteArray.ext
  show (mk t ++ mk x).data = (mk (t ++ x)).data
  simp [mk]
section
variable {F X : Nat → Prop} {b : Nat} {w : World} {S : Sp}
set_option maxHeartbeats 4000000 in
set_option maxRecDepth 100000 in
theorem get_call (h : SP F X b w S) (k : Bs) (hk : k.length ≤ 281474976710656) (now : Int) {G : Nat → Prop} {a : Option Addr} {n c : Nat} {l : List Base.El} (hl : SL G w (.slice a n c) l) (hl0 : 0 < l.length) (hk0 : l[0] = k) :
    Calls Tryz.prog 33 #[cV b now a n c] w fun e w' => e = .returned (rp3 (getM (sa (gt S now k)))) ∧ Dn F X b w w' S := by
  obtain ⟨ga, oa, rfl, hc0⟩ := sl_cell hl hl0
  rw [hk0, Nat.add_zero] at hc0
  have hga : ga < w.heap.size := Base.cell_lt hc0
  have hn0 : 0 < n := by
    obtain ⟨a', c', e', hc', -⟩ := hl
    injection e' with e1 e2 e3
    omega
  obtain ⟨W, hW⟩ : ∃ W, W = (w.alloc (cO b now (some ⟨ga, oa, none⟩) n c)).alloc (rO 0 ⟨#[]⟩ 0 (.slice none 0 0)) := ⟨_, rfl⟩
  obtain ⟨bW, x0, x1, sW⟩ := two_boxes w (cO b now (some ⟨ga, oa, none⟩) n c) (rO 0 ⟨#[]⟩ 0 (.slice none 0 0)) ⟨_, _, rfl⟩
  rw [← hW] at bW x0 x1 sW
  have HH := hid_of h
  have HB := hid_of bW
  have HX0 := hid_of x0
  have HX1 := hid_of x1
  have HSW := hid_of sW
  have HW := hid_of hW
  have t1 : QPut.Tmp w W (w.heap.size + 1) := ⟨by omega, by rw [HSW.out]; omega⟩
  have H1 := hid_of fun (V : World) (hV : Below W.heap.size W V) => stringAt_call ((sp_wide h bW).below hV) k hk now (some ⟨ga, oa, none⟩) n c
  obtain ⟨⟨tx, qq, wr⟩, hs⟩ : ∃ s, sa (gt S now k) = s := ⟨_, rfl⟩
  rw [hs] at H1 ⊢
  simp only at H1
  have hcW := (bW.cell (p := ⟨ga, oa, none⟩) hga).trans hc0
  have hgW : ga < W.heap.size := Base.cell_lt hcW
  obtain ⟨⟨cc0, cc1, cc2⟩, -⟩ := box3 x0
  have hX1 := x1
  unfold getM
  clear hW bW x0 x1 sW h hs
  generalize hXX : mk tx = XX at *
  have HXX := hid_of hXX
  generalize hWT : wt wr = WT at *
  have HWT := hid_of hWT
  clear hXX hWT
  go_enter Tryz.func33, Tryz.ntmps33
  go_wp2_with fail
  rw [← HW.out]
  go_cut [3, 4] (fun s3 s4 wx => ∃ q, s3 = .pointer (some ⟨q, 0, none⟩) ∧ s4 = .string WT ∧ Hid (wx.heap[q]? = some (.cells #[.string XX, .bool qq] 102 (0, 0)) ∧ Below W.heap.size W wx))
  case first =>
    have hlw : w.heap.size < W.heap.size := lt_of HX0.out
    go_region_with (first
      | (go_at_call 68; refine (H1.out _ (by first | exact (Below.refl _ W).drew | exact FRow.bel (Below.refl _ W).drew (alb W.drew _) (Nat.le_refl _))).mono ?_; rintro e w3 ⟨rfl, b3⟩; have B3 : Below W.heap.size W w3 := (by first | exact FRow.bel (Below.refl _ W).drew b3 (Nat.le_refl _) | exact FRow.bel (FRow.bel (Below.refl _ W).drew (alb W.drew _) (Nat.le_refl _)) b3 (Nat.le_refl _)); have HB3 := hid_of B3; (try (have x3 : w3.heap[W.heap.size]? = some (hO ⟨#[]⟩ false) := (b3.block _ (by simp)).trans (heap_alloc_new W.drew _); obtain ⟨⟨p0, p1⟩, fp⟩ := box2 x3; have fp0 := fp 0; have fp1 := fp 1; have x3s : Hid ((((w3.setCell ⟨W.heap.size, 0, none⟩ (.string XX)).setCell ⟨W.heap.size, 1, none⟩ (.bool qq)).heap[W.heap.size]? = some (.cells #[.string XX, .bool qq] 102 (0, 0))) ∧ Below W.heap.size W ((w3.setCell ⟨W.heap.size, 0, none⟩ (.string XX)).setCell ⟨W.heap.size, 1, none⟩ (.bool qq))) := hid_of ⟨(by simpa using set_at (i := 1) (set_at (i := 0) x3 (.string XX)) (.bool qq)), bset (bset B3 (Nat.le_refl _) _) (Nat.le_refl _) _⟩; clear fp x3))))
    all_goals
      go_wp2_with fail
      go_meet
      case rel => first
        | exact ⟨w3.heap.size, rfl, rfl, hid_of ⟨heap_alloc_new w3 _, FRow.bel HB3.out (alb w3 _) (Nat.le_refl _)⟩⟩
        | exact ⟨W.heap.size, rfl, rfl, x3s⟩
  case rest =>
    obtain ⟨q, rfl, rfl, HQ⟩ := hcut
    obtain ⟨⟨p0, p1⟩, -⟩ := box2 HQ.out.1
    have B1 := hid_of HQ.out.2
    cases wr
    · have hwe : WT.toList.isEmpty = true := (QInc.isE WT [] (by rw [← HWT.out]; rfl)).trans rfl
      have HK := hid_of fun V => hbulk_call XX qq V
      cases qq
      · simp only [Bool.false_eq_true, if_false] at HK
        clear HQ
        go_wp2_with fail
        refine (HK.out wc).mono ?_
        rintro e w2 ⟨rfl, b2⟩
        have z2 := (dn_block HH.out HB.out (Dn.of (sp_wide HH.out HB.out) (FRow.bel B1.out b2 (Nat.le_refl _))) t1).trans HX1.out
        have hz := fin4_at z2 (.int .i64 5) (.string ⟨#[]⟩) (.int .i64 0) (.slice none 0 0)
        have hdn := dn_tmp HH.out HB.out (Dn.of (sp_wide HH.out HB.out) (FRow.bel B1.out b2 (Nat.le_refl _))) (ev_fin4 t1 (.int .i64 5) (.string ⟨#[]⟩) (.int .i64 0) (.slice none 0 0))
        unfold fin4 at hz hdn
        obtain ⟨⟨v0, v1, v2, v3⟩, fv⟩ := box4 z2
        have fv0 := fv 0
        have fv1 := fv 1
        have fv2 := fv 2
        have fv3 := fv 3
        clear fv
        clear z2
        go_wp2_with fail
        obtain ⟨⟨g0, g1, g2, g3⟩, -⟩ := box4 hz
        exact bodyPost_ret (v := .agg #[.int .i64 5, .string ⟨#[]⟩, .int .i64 0, .slice none 0 0]) (by simp [results, Tryz.results33, go_sem, g0, g1, g2, g3]) rfl ⟨rfl, hdn⟩
      · simp only [if_true] at HK
        clear HQ
        go_wp2_with fail
        refine (HK.out wc).mono ?_
        rintro e w2 ⟨rfl, b2⟩
        have z2 := (dn_block HH.out HB.out (Dn.of (sp_wide HH.out HB.out) (FRow.bel B1.out b2 (Nat.le_refl _))) t1).trans HX1.out
        have hz := fin4_at z2 (.int .i64 4) (.string XX) (.int .i64 0) (.slice none 0 0)
        have hdn := dn_tmp HH.out HB.out (Dn.of (sp_wide HH.out HB.out) (FRow.bel B1.out b2 (Nat.le_refl _))) (ev_fin4 t1 (.int .i64 4) (.string XX) (.int .i64 0) (.slice none 0 0))
        unfold fin4 at hz hdn
        obtain ⟨⟨v0, v1, v2, v3⟩, fv⟩ := box4 z2
        have fv0 := fv 0
        have fv1 := fv 1
        have fv2 := fv 2
        have fv3 := fv 3
        clear fv
        clear z2
        go_wp2_with fail
        obtain ⟨⟨g0, g1, g2, g3⟩, -⟩ := box4 hz
        exact bodyPost_ret (v := .agg #[.int .i64 4, .string XX, .int .i64 0, .slice none 0 0]) (by simp [results, Tryz.results33, go_sem, g0, g1, g2, g3]) rfl ⟨rfl, hdn⟩
    · have hwe : WT.toList.isEmpty = false := (QInc.isE WT wrongB.data.toList (by rw [← HWT.out]; rfl)).trans rfl
      have HWQ := hid_of (show WT = wrongB from HWT.out.symm)
      have HK := hid_of fun V => refused_call WT V
      clear HQ
      go_wp2_with fail
      refine (HK.out wc).mono ?_
      rintro e w2 ⟨rfl, b2⟩
      have z2 := (dn_block HH.out HB.out (Dn.of (sp_wide HH.out HB.out) (FRow.bel B1.out b2 (Nat.le_refl _))) t1).trans HX1.out
      have hz := fin4_at z2 (.int .i64 2) (.string WT) (.int .i64 0) (.slice none 0 0)
      have hdn := dn_tmp HH.out HB.out (Dn.of (sp_wide HH.out HB.out) (FRow.bel B1.out b2 (Nat.le_refl _))) (ev_fin4 t1 (.int .i64 2) (.string WT) (.int .i64 0) (.slice none 0 0))
      unfold fin4 at hz hdn
      obtain ⟨⟨v0, v1, v2, v3⟩, fv⟩ := box4 z2
      have fv0 := fv 0
      have fv1 := fv 1
      have fv2 := fv 2
      have fv3 := fv 3
      clear fv
      clear z2
      go_wp2_with fail
      obtain ⟨⟨g0, g1, g2, g3⟩, -⟩ := box4 hz
      exact bodyPost_ret (v := .agg #[.int .i64 2, .string WT, .int .i64 0, .slice none 0 0]) (by simp [results, Tryz.results33, go_sem, g0, g1, g2, g3]) rfl ⟨by rw [show WT = wrongB from HWT.out.symm], hdn⟩
end
end Go.Proofs.YtiofnocmibjepaaGreatDoor.QGet
