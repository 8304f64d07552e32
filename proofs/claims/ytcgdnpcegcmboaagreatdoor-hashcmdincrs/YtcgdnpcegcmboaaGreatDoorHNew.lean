/- HSETNX, HSTRLEN, and HINCRBY past an end. -/
import Derived.Test.YtcgdnpcegcmboaaGreatDoorHDoM
namespace Go.Proofs.YtcgdnpcegcmboaaGreatDoor.HNew
open Go.RowKit Go.Maps
open Go.Proofs.YtcgdnpcegcmboaaGreatDoor.SpaceMath (wout withL lkp keys toD)
open Go.Proofs.YtcgdnpcegcmboaaGreatDoor.ValueMath (Vl chk small)
open Go.Proofs.YtcgdnpcegcmboaaGreatDoor.Base (mk mk_list mk_size Gr hid_of SL)
open Go.Proofs.YtcgdnpcegcmboaaGreatDoor.Turn
open Go.Proofs.YtcgdnpcegcmboaaGreatDoor.Vals
open Go.Proofs.YtcgdnpcegcmboaaGreatDoor.Check0 (Wel)
open Go.Proofs.YtcgdnpcegcmboaaGreatDoor.SBase
open Go.Proofs.YtcgdnpcegcmboaaGreatDoor.SFind
open Go.Proofs.YtcgdnpcegcmboaaGreatDoor.SPut (vO)
open Go.Proofs.YtcgdnpcegcmboaaGreatDoor.QBase
open Go.Proofs.YtcgdnpcegcmboaaGreatDoor.HCmd
open Go.Proofs.YtcgdnpcegcmboaaGreatDoor.DiBase (DK)
open Go.Proofs.YtcgdnpcegcmboaaGreatDoor.Parse (Has)
set_option linter.unusedVariables false
set_option linter.unusedSimpArgs false
open Go.Proofs.YtcgdnpcegcmboaaGreatDoor.HFld
open Go.Proofs.YtcgdnpcegcmboaaGreatDoor.HChg (Lay)
open Go.Proofs.YtcgdnpcegcmboaaGreatDoor.HSet (layF)
open Go.Proofs.YtcgdnpcegcmboaaGreatDoor.HDrop (dropF dropF_len)
open Go.Proofs.YtcgdnpcegcmboaaGreatDoor.HRow (RR rpL)
open Go.Proofs.YtcgdnpcegcmboaaGreatDoor.HMap (fnV cmdL)
open Go.Proofs.YtcgdnpcegcmboaaGreatDoor.Low (low)
open Go.Proofs.YtcgdnpcegcmboaaGreatDoor.RowOf (checkS)
open Go.Lib (itoa)
open Go.Proofs.YtcgdnpcegcmboaaGreatDoor.HSet
open Go.Proofs.YtcgdnpcegcmboaaGreatDoor.HDo
open Go.Proofs.YtcgdnpcegcmboaaGreatDoor.HGet (word_at)
open Go.Proofs.YtcgdnpcegcmboaaGreatDoor.HInc (ovB)
set_option maxHeartbeats 4000000 in
set_option maxRecDepth 100000 in
theorem setNew1_yes (b : Nat) (now : Int) (K : ByteArray) {G : Nat → Prop} {a : Option Addr} {n c : Nat} {ps : List Base.El} (B : Nat) (V : World) (q d m : Nat) (L : FL) (hq : V.heap[q]? = some (cO b now K a n c)) (hw : SL G V (.slice a n c) ps) (h0 : 0 < ps.length) (hb : ∀ t ∈ ps, t.length ≤ 140737488355328) (hB : B ≤ V.heap.size) (hd : DK d m L V) (hm : B ≤ m) (hok : DiDictMath.ok L ps[0] = true) :
    Calls Tryz.prog 116 #[ptr d, .pointer (some ⟨q, 0, none⟩)] V fun e w' => e = .returned (rp 3 ⟨#[]⟩ 0) ∧ DK d m L w' ∧ Below B V w' := by
  obtain ⟨rfl, ga, oa, rfl, hga, hc0⟩ := word_at hw 0 h0
  rw [Nat.add_zero] at hc0
  obtain ⟨W, hW⟩ : ∃ W, W = V.alloc (rO 0 ⟨#[]⟩ 0 (.slice none 0 0)) := ⟨_, rfl⟩
  have bW : Below V.heap.size V W := by rw [hW]; exact alb _ _
  have HX := hid_of (show W.heap[V.heap.size]? = some (rO 0 ⟨#[]⟩ 0 (.slice none 0 0)) by rw [hW]; exact heap_alloc_new V _)
  have xq := (bW.block _ (lt_of hq)).trans hq
  have HQ := hid_of xq
  obtain ⟨⟨q0, q1, q2, q3⟩, -⟩ := box4 xq
  have hcw := (bW.cell (p := ⟨ga, oa, none⟩) hga).trans hc0
  have hgw : ga < W.heap.size := Base.cell_lt hcw
  have i0 : (0 : Int) < (ps.length : Int) := by omega
  have q3a := q3
  have hca := hcw
  have hga2 := hgw
  rw [hW] at q3a hca hga2
  have hg := DiSmall.get_call d m L (mk ps[0]) W (hd.below bW) (by rw [mk_size]; exact hb _ (List.getElem_mem h0))
  rw [bsmk, hok] at hg
  generalize DiBase.valS L ps[0] = T at hg
  have H1 := hid_of hg
  have HL := hid_of (fun (w1 : World) (b1 : Below W.heap.size W w1) => (hd.below bW).below b1)
  have H2 := hid_of (@count_call)
  have HB := hid_of bW
  have HBB := hid_of hB
  have HW := hid_of hW
  clear hW bW hq hw hb hd xq hB hc0 hg hok
  generalize mk ps[0] = N0 at *
  go_enter Tryz.func116, Tryz.ntmps116
  go_wp2_with fail
  rw [← HW.out]
  go_wp2_with fail
  refine H1.out.mono ?_
  rintro e w1 ⟨rfl, b1⟩
  have B1 := hid_of (FRow.bel HB.out b1 (Nat.le_refl _))
  have X1 := hid_of ((b1.block _ (lt_of HX.out)).trans HX.out)
  have xq1 := (b1.block _ (lt_of HQ.out)).trans HQ.out
  have HLw := hid_of (HL.out w1 b1)
  clear b1 H1 HL q0 q1 q2 q3 q3a hca
  obtain ⟨⟨q0, q1, q2, q3⟩, -⟩ := box4 xq1
  clear xq1
  go_wp2_with fail
  have HD1 := HLw
  have X2 := X1
  have B2 := hid_of (B1.out.mono HBB.out)
  have hle1 : V.heap.size ≤ w1.heap.size := Nat.le_of_lt (lt_of X2.out)
  refine (H2.out _ w1).mono ?_
  rintro e w3 ⟨rfl, b3⟩
  have HD3 := HD1.out.below b3
  have X3 := (b3.block _ (lt_of X2.out)).trans X2.out
  have B3 := hid_of (B2.out.trans (b3.mono (Nat.le_trans HBB.out hle1)))
  obtain ⟨⟨v0, v1, v2, v3⟩, fv⟩ := box4 X3
  have fv0 := fv 0; have fv1 := fv 1; have fv2 := fv 2; have fv3 := fv 3
  have hz := fin4_at X3 (.int .i64 3) (.string ⟨#[]⟩) (.int .i64 0) (.slice none 0 0)
  have hbz := fin4_b (y0 := .int .i64 3) (y1 := .string ⟨#[]⟩) (y2 := .int .i64 0) (y3 := .slice none 0 0) B3.out HBB.out
  have hdz := dk_fin HD3 X3 (.int .i64 3) (.string ⟨#[]⟩) (.int .i64 0) (.slice none 0 0)
  unfold fin4 at hz hbz hdz
  have HZ := hid_of (And.intro hbz hdz)
  clear fv b3 HD3 X3 hbz hdz
  go_wp2_with fail
  obtain ⟨⟨g0, g1, g2, g3⟩, -⟩ := box4 hz
  exact bodyPost_ret (v := rp 3 ⟨#[]⟩ 0) (by simp [results, Tryz.results116, go_sem, g0, g1, g2, g3]) rfl ⟨rfl, HZ.out.2, HZ.out.1⟩
set_option maxHeartbeats 4000000 in
set_option maxRecDepth 100000 in
theorem setNew1_no (b : Nat) (now : Int) (K : ByteArray) {G : Nat → Prop} {a : Option Addr} {n c : Nat} {ps : List Base.El} (B : Nat) (V : World) (q d m : Nat) (L : FL) (hq : V.heap[q]? = some (cO b now K a n c)) (hw : SL G V (.slice a n c) ps) (h0 : 0 < ps.length) (hev : ps.length % 2 = 0) (hn : L.length + ps.length < 8796093022208) (hb : ∀ t ∈ ps, t.length ≤ 140737488355328) (hB : B ≤ V.heap.size) (hd : DK d m L V) (hm : B ≤ m) (hok : DiDictMath.ok L ps[0] = false) :
    Calls Tryz.prog 116 #[ptr d, .pointer (some ⟨q, 0, none⟩)] V fun e w' => e = .returned (rp 3 ⟨#[]⟩ ((layF L ps).2 : Int)) ∧ DK d m (layF L ps).1 w' ∧ Below B V w' := by
  obtain ⟨rfl, ga, oa, rfl, hga, hc0⟩ := word_at hw 0 h0
  rw [Nat.add_zero] at hc0
  obtain ⟨W, hW⟩ : ∃ W, W = V.alloc (rO 0 ⟨#[]⟩ 0 (.slice none 0 0)) := ⟨_, rfl⟩
  have bW : Below V.heap.size V W := by rw [hW]; exact alb _ _
  have HX := hid_of (show W.heap[V.heap.size]? = some (rO 0 ⟨#[]⟩ 0 (.slice none 0 0)) by rw [hW]; exact heap_alloc_new V _)
  have xq := (bW.block _ (lt_of hq)).trans hq
  have HQ := hid_of xq
  obtain ⟨⟨q0, q1, q2, q3⟩, -⟩ := box4 xq
  have hcw := (bW.cell (p := ⟨ga, oa, none⟩) hga).trans hc0
  have hgw : ga < W.heap.size := Base.cell_lt hcw
  have i0 : (0 : Int) < (ps.length : Int) := by omega
  have q3a := q3
  have hca := hcw
  have hga2 := hgw
  rw [hW] at q3a hca hga2
  have hg := DiSmall.get_call d m L (mk ps[0]) W (hd.below bW) (by rw [mk_size]; exact hb _ (List.getElem_mem h0))
  rw [bsmk, hok] at hg
  generalize DiBase.valS L ps[0] = T at hg
  have H1 := hid_of hg
  have HL := hid_of (fun (w1 : World) (b1 : Below W.heap.size W w1) => lay_call w1 d m L ((hd.below bW).below b1) ((hw.below bW).below b1) hev hb hn)
  have H2 := hid_of (@count_call)
  have HB := hid_of bW
  have HBB := hid_of hB
  have HW := hid_of hW
  clear hW bW hq hw hb hd xq hB hc0 hg hok hev hn
  obtain ⟨R, hR⟩ : ∃ R, R = layF L ps := ⟨_, rfl⟩
  simp only [← hR] at HL ⊢
  clear hR
  generalize mk ps[0] = N0 at *
  go_enter Tryz.func116, Tryz.ntmps116
  go_wp2_with fail
  rw [← HW.out]
  go_wp2_with fail
  refine H1.out.mono ?_
  rintro e w1 ⟨rfl, b1⟩
  have B1 := hid_of (FRow.bel HB.out b1 (Nat.le_refl _))
  have X1 := hid_of ((b1.block _ (lt_of HX.out)).trans HX.out)
  have xq1 := (b1.block _ (lt_of HQ.out)).trans HQ.out
  have HLw := hid_of (HL.out w1 b1)
  clear b1 H1 HL q0 q1 q2 q3 q3a hca
  obtain ⟨⟨q0, q1, q2, q3⟩, -⟩ := box4 xq1
  clear xq1
  go_wp2_with fail
  refine HLw.out.mono ?_
  rintro e w2 ⟨rfl, hd1, mv⟩
  have HD1 := hid_of hd1
  have X2 := hid_of (mv.blk X1.out)
  have B2 := hid_of ((B1.out.mono HBB.out).trans (mv_below mv hm (Nat.le_trans HBB.out B1.out.size)))
  have hle1 : V.heap.size ≤ w2.heap.size := Nat.le_of_lt (lt_of X2.out)
  clear hd1 mv HLw q0 q1 q2 q3
  go_wp2_with fail
  refine (H2.out _ w2).mono ?_
  rintro e w3 ⟨rfl, b3⟩
  have HD3 := HD1.out.below b3
  have X3 := (b3.block _ (lt_of X2.out)).trans X2.out
  have B3 := hid_of (B2.out.trans (b3.mono (Nat.le_trans HBB.out hle1)))
  obtain ⟨⟨v0, v1, v2, v3⟩, fv⟩ := box4 X3
  have fv0 := fv 0; have fv1 := fv 1; have fv2 := fv 2; have fv3 := fv 3
  have hz := fin4_at X3 (.int .i64 3) (.string ⟨#[]⟩) (.int .i64 (R.2 : Int)) (.slice none 0 0)
  have hbz := fin4_b (y0 := .int .i64 3) (y1 := .string ⟨#[]⟩) (y2 := .int .i64 (R.2 : Int)) (y3 := .slice none 0 0) B3.out HBB.out
  have hdz := dk_fin HD3 X3 (.int .i64 3) (.string ⟨#[]⟩) (.int .i64 (R.2 : Int)) (.slice none 0 0)
  unfold fin4 at hz hbz hdz
  have HZ := hid_of (And.intro hbz hdz)
  clear fv b3 HD3 X3 hbz hdz
  go_wp2_with fail
  obtain ⟨⟨g0, g1, g2, g3⟩, -⟩ := box4 hz
  exact bodyPost_ret (v := rp 3 ⟨#[]⟩ (R.2 : Int)) (by simp [results, Tryz.results116, go_sem, g0, g1, g2, g3]) rfl ⟨rfl, HZ.out.2, HZ.out.1⟩
set_option maxHeartbeats 4000000 in
set_option maxRecDepth 100000 in
theorem valueLength1_call (b : Nat) (now : Int) (K : ByteArray) {G : Nat → Prop} {a : Option Addr} {n c : Nat} {ps : List Base.El} (V : World) (q d m : Nat) (L : FL) (hq : V.heap[q]? = some (cO b now K a n c)) (hw : SL G V (.slice a n c) ps) (h0 : 0 < ps.length) (hb : ps[0].length ≤ 140737488355328) (hd : DK d m L V) {v : Bs} (hl : DiDictMath.lkp L ps[0] = some v) (hv : v.length < 9223372036854775808) :
    Calls Tryz.prog 117 #[ptr d, .pointer (some ⟨q, 0, none⟩)] V fun e w' => e = .returned (rp 3 ⟨#[]⟩ (v.length : Int)) ∧ Below V.heap.size V w' := by
  obtain ⟨rfl, ga, oa, rfl, hga, hc0⟩ := word_at hw 0 h0
  rw [Nat.add_zero] at hc0
  obtain ⟨W, hW⟩ : ∃ W, W = V.alloc (rO 0 ⟨#[]⟩ 0 (.slice none 0 0)) := ⟨_, rfl⟩
  have bW : Below V.heap.size V W := by rw [hW]; exact alb _ _
  have HX := hid_of (show W.heap[V.heap.size]? = some (rO 0 ⟨#[]⟩ 0 (.slice none 0 0)) by rw [hW]; exact heap_alloc_new V _)
  have xq := (bW.block _ (lt_of hq)).trans hq
  have HQ := hid_of xq
  obtain ⟨⟨q0, q1, q2, q3⟩, -⟩ := box4 xq
  have hcw := (bW.cell (p := ⟨ga, oa, none⟩) hga).trans hc0
  have hgw : ga < W.heap.size := Base.cell_lt hcw
  have i0 : (0 : Int) < (ps.length : Int) := by omega
  have q3a := q3
  have hca := hcw
  have hga2 := hgw
  rw [hW] at q3a hca hga2
  have hg := DiSmall.get_call d m L (mk ps[0]) W (hd.below bW) (by rw [mk_size]; exact hb)
  rw [bsmk, show DiBase.valS L ps[0] = mk v by unfold DiBase.valS; rw [hl]; rfl] at hg
  generalize DiDictMath.ok L ps[0] = there at hg
  have H1 := hid_of hg
  have H2 := hid_of (@count_call)
  have HB := hid_of bW
  have HW := hid_of hW
  have hT : (mk v).size = v.length := mk_size v
  clear hW bW hq hw hb hd xq hc0 hg hl
  generalize mk v = T at *
  generalize mk ps[0] = N0 at *
  go_enter Tryz.func117, Tryz.ntmps117
  go_wp2_with fail
  rw [← HW.out]
  go_wp2_with fail
  refine H1.out.mono ?_
  rintro e w1 ⟨rfl, b1⟩
  have B1 := hid_of (FRow.bel HB.out b1 (Nat.le_refl _))
  have X1 := hid_of ((b1.block _ (lt_of HX.out)).trans HX.out)
  have xq1 := (b1.block _ (lt_of HQ.out)).trans HQ.out
  clear b1 H1 q0 q1 q2 q3 q3a hca xq1
  go_wp2_with fail
  try rw [hT]
  refine (H2.out _ w1).mono ?_
  rintro e w3 ⟨rfl, b3⟩
  have B3 := hid_of (FRow.bel B1.out b3 (Nat.le_refl _))
  have X3 := (b3.block _ (lt_of X1.out)).trans X1.out
  obtain ⟨⟨v0, v1, v2, v3⟩, fv⟩ := box4 X3
  have fv0 := fv 0; have fv1 := fv 1; have fv2 := fv 2; have fv3 := fv 3
  have hz := fin4_at X3 (.int .i64 3) (.string ⟨#[]⟩) (.int .i64 (v.length : Int)) (.slice none 0 0)
  have hbz := fin4_b (y0 := .int .i64 3) (y1 := .string ⟨#[]⟩) (y2 := .int .i64 (v.length : Int)) (y3 := .slice none 0 0) B3.out (Nat.le_refl _)
  unfold fin4 at hz hbz
  have HZ := hid_of hbz
  clear fv b3 hbz X3
  go_wp2_with fail
  obtain ⟨⟨g0, g1, g2, g3⟩, -⟩ := box4 hz
  exact bodyPost_ret (v := rp 3 ⟨#[]⟩ (v.length : Int)) (by simp [results, Tryz.results117, go_sem, g0, g1, g2, g3]) rfl ⟨rfl, HZ.out⟩
section
variable {F X : Nat → Prop} {b : Nat} {w : World} {S : Sp}
set_option maxHeartbeats 4000000 in
set_option maxRecDepth 100000 in
theorem setNew_call (h : SP F X b w S) (k : Bs) (hk : k.length ≤ 281474976710656) (now : Int) (a : Option Addr) (n c : Nat) {L L' : FL} {S' : Sp} (hL : flds S now k L) (fit : Fit L) (hn' : L'.length < 8796093022208) (hlay : Lay S now k L L' S') (rn : Int)
    (hdo : ∀ (B : Nat) (V : World) (q d m : Nat), V.heap[q]? = some (cO b now (mk k) a n c) → Below w.heap.size w V → B ≤ V.heap.size → DK d m L V → B ≤ m → Calls Tryz.prog 116 #[ptr d, .pointer (some ⟨q, 0, none⟩)] V fun e w' => e = .returned (rp 3 ⟨#[]⟩ rn) ∧ DK d m L' w' ∧ Below B V w') :
    Calls Tryz.prog 66 #[cV b now (mk k) a n c] w fun e w' => e = .returned (rp 3 ⟨#[]⟩ rn) ∧ Dn F X b w w' S' := by
  obtain ⟨W, hW⟩ : ∃ W, W = (w.alloc (cO b now (mk k) a n c)).alloc (rO 0 ⟨#[]⟩ 0 (.slice none 0 0)) := ⟨_, rfl⟩
  obtain ⟨bW, x0, x1, sW⟩ := two_boxes w (cO b now (mk k) a n c) (rO 0 ⟨#[]⟩ 0 (.slice none 0 0)) ⟨_, _, rfl⟩
  rw [← hW] at bW x0 x1 sW
  have H1 := hid_of (HChg.change_ok (sp_wide h bW) k hk now a n c hL fit hn' hlay 116 (.pointer (some ⟨w.heap.size, 0, none⟩)) (fun args w => by kernel_rfl) 3 ⟨#[]⟩ rn
    (fun B V d m hB1 hB2 hV hd hdB hmB => hdo B V w.heap.size d m ((hV.block _ (lt_of x0)).trans x0) (bW.trans (hV.mono bW.size)) hB2 hd hmB))
  have HH := hid_of h
  have HB := hid_of bW
  have HX1 := hid_of x1
  have HSW := hid_of sW
  have HW := hid_of hW
  obtain ⟨⟨c0, c1, c2, c3⟩, -⟩ := box4 x0
  have c3a := c3
  rw [hW] at c3a
  have t1 : HCmd.Tmp w W (w.heap.size + 1) := ⟨by omega, by rw [HSW.out]; omega⟩
  clear hW bW x0 x1 sW h hL fit hn' hlay hdo
  generalize mk k = K at *
  go_enter Tryz.func66, Tryz.ntmps66
  go_wp2_with fail
  rw [← HW.out]
  go_wp2_with fail
  refine H1.out.mono ?_
  rintro e w3 ⟨rfl, d3⟩
  have D3 := hid_of d3
  have z3 := (dn_block HH.out HB.out d3 t1).trans HX1.out
  obtain ⟨⟨v0, v1, v2, v3⟩, fv⟩ := box4 z3
  have fv0 := fv 0; have fv1 := fv 1; have fv2 := fv 2; have fv3 := fv 3
  have hz := fin4_at z3 (.int .i64 3) (.string ⟨#[]⟩) (.int .i64 rn) (.slice none 0 0)
  have hdn := dn_tmp HH.out HB.out D3.out (ev_fin4 t1 (.int .i64 3) (.string ⟨#[]⟩) (.int .i64 rn) (.slice none 0 0))
  unfold fin4 at hz hdn
  have HDN := hid_of hdn
  clear fv z3 d3 H1 hdn
  go_wp2_with fail
  obtain ⟨⟨g0, g1, g2, g3⟩, -⟩ := box4 hz
  exact bodyPost_ret (v := rp 3 ⟨#[]⟩ rn) (by simp [results, Tryz.results66, go_sem, g0, g1, g2, g3]) rfl ⟨rfl, HDN.out⟩
theorem run_setNew_yes (h : SP F X b w S) (now : Int) (hn0 : 0 ≤ now) (hnM : now ≤ 9007199254740992) {G : Nat → Prop} {a : Option Addr} {n c : Nat} {l : List Base.El} (hl : SL G w (.slice a n c) l) (rq : Rq l 66) (h3 : 2 < l.length) {L : FL} (hL : flds S now (l[1]'rq.lo) L) (fit : Fit L) (hok : DiDictMath.ok L l[2] = true) :
    Calls Tryz.prog 21 #[ptr b, .int .i64 now, .slice a n c] w fun e w' => e = .returned (rp 3 ⟨#[]⟩ 0) ∧ Dn F X b w w' S := by
  have hfn := rq.hi
  have hk : (l[1]'rq.lo).length ≤ 281474976710656 := rq.bl2 _ (List.getElem_mem _)
  refine HLaw.run_do h now a n c 3 0 ⟨#[]⟩ fun V X' hS hV => ?_
  refine HRun.run_do hS now hn0 hnM (hl.below hV) rq.lo (by omega) rq.bl2 rq.ch _ (rq.fn0 (by have := rq.lo; omega)) (fun args w => by kernel_rfl) 3 ⟨#[]⟩ 0 fun V2 a2 c2 hV2 hl2 => ?_
  have h0 : 0 < (l.drop 2).length := by rw [List.length_drop]; omega
  have hw0 : (l.drop 2)[0] = l[2] := by simp
  have hf := fit.n
  refine setNew_call (sp_wide hS hV2) _ hk now a2 _ c2 hL fit (by omega) (.inl ⟨rfl, rfl⟩) 0 fun B V3 q d m hq hV3 hB hd hm => ?_
  exact setNew1_yes b now _ B V3 q d m L hq (hl2.below hV3) h0 rq.bd2 hB hd hm (by rw [hw0]; exact hok)
theorem run_setNew_no (h : SP F X b w S) (now : Int) (hn0 : 0 ≤ now) (hnM : now ≤ 9007199254740992) {G : Nat → Prop} {a : Option Addr} {n c : Nat} {l : List Base.El} (hl : SL G w (.slice a n c) l) (rq : Rq l 66) (h3 : 2 < l.length) (hev : (l.drop 2).length % 2 = 0) {L : FL} (hL : flds S now (l[1]'rq.lo) L) (fit : Fit L) (hok : DiDictMath.ok L l[2] = false) {S' : Sp} (hlay : Lay S now (l[1]'rq.lo) L (layF L (l.drop 2)).1 S') :
    Calls Tryz.prog 21 #[ptr b, .int .i64 now, .slice a n c] w fun e w' => e = .returned (rp 3 ⟨#[]⟩ ((layF L (l.drop 2)).2 : Int)) ∧ Dn F X b w w' S' := by
  have hfn := rq.hi
  have hk : (l[1]'rq.lo).length ≤ 281474976710656 := rq.bl2 _ (List.getElem_mem _)
  refine HLaw.run_do h now a n c 3 ((layF L (l.drop 2)).2 : Int) ⟨#[]⟩ fun V X' hS hV => ?_
  refine HRun.run_do hS now hn0 hnM (hl.below hV) rq.lo (by omega) rq.bl2 rq.ch _ (rq.fn0 (by have := rq.lo; omega)) (fun args w => by kernel_rfl) 3 ⟨#[]⟩ ((layF L (l.drop 2)).2 : Int) fun V2 a2 c2 hV2 hl2 => ?_
  have h0 : 0 < (l.drop 2).length := by rw [List.length_drop]; omega
  have hw0 : (l.drop 2)[0] = l[2] := by simp
  have hf := fit.n
  have hd : (l.drop 2).length ≤ l.length := by rw [List.length_drop]; omega
  have hll := layF_len (l.drop 2) L
  refine setNew_call (sp_wide hS hV2) _ hk now a2 _ c2 hL fit (by omega) hlay _ fun B V3 q d m hq hV3 hB hd hm => ?_
  exact setNew1_no b now _ B V3 q d m L hq (hl2.below hV3) h0 hev (by omega) rq.bd2 hB hd hm (by rw [hw0]; exact hok)
theorem run_valueLength (h : SP F X b w S) (now : Int) (hn0 : 0 ≤ now) (hnM : now ≤ 9007199254740992) {G : Nat → Prop} {a : Option Addr} {n c : Nat} {l : List Base.El} (hl : SL G w (.slice a n c) l) (rq : Rq l 67) (h3 : 2 < l.length) {L : FL} (hL : flds S now (l[1]'rq.lo) L) (fit : Fit L) {v : Bs} (hlk : DiDictMath.lkp L l[2] = some v) (hv : v.length < 9223372036854775808) :
    Calls Tryz.prog 21 #[ptr b, .int .i64 now, .slice a n c] w fun e w' => e = .returned (rp 3 ⟨#[]⟩ (v.length : Int)) ∧ Dn F X b w w' S := by
  have hfn := rq.hi
  have hk : (l[1]'rq.lo).length ≤ 281474976710656 := rq.bl2 _ (List.getElem_mem _)
  refine HLaw.run_do h now a n c 3 (v.length : Int) ⟨#[]⟩ fun V X' hS hV => ?_
  refine HRun.run_do hS now hn0 hnM (hl.below hV) rq.lo (by omega) rq.bl2 rq.ch _ (rq.fn0 (by have := rq.lo; omega)) (fun args w => by kernel_rfl) 3 ⟨#[]⟩ (v.length : Int) fun V2 a2 c2 hV2 hl2 => ?_
  have h0 : 0 < (l.drop 2).length := by rw [List.length_drop]; omega
  have hw0 : (l.drop 2)[0] = l[2] := by simp
  refine (HGet.valueLength_call (sp_wide hS hV2) _ hk now a2 _ c2 hL fit 3 ⟨#[]⟩ (v.length : Int) nolist (fun _ _ _ _ _ _ _ h _ => h) fun V3 d m q hV3 hq hd => ?_).mono fun e w' ⟨la, ln, lc, h1, h2, h3⟩ => ?_
  · refine (valueLength1_call b now _ V3 q d m L hq (hl2.below hV3) h0 (by rw [hw0]; exact Nat.le_trans (rq.bl _ (List.getElem_mem _)) (by decide)) hd (by rw [hw0]; exact hlk) hv).mono fun e w' ⟨h1, h2⟩ => ⟨none, 0, 0, h1, ⟨rfl, rfl, rfl⟩, h2⟩
  · obtain ⟨rfl, rfl, rfl⟩ := h2
    exact ⟨h1, Dn.of (sp_wide hS hV2) h3⟩
theorem run_incr_over (h : SP F X b w S) (now : Int) (hn0 : 0 ≤ now) (hnM : now ≤ 9007199254740992) {G : Nat → Prop} {a : Option Addr} {n c : Nat} {l : List Base.El} (hl : SL G w (.slice a n c) l) (rq : Rq l 59) (h4 : 3 < l.length) (hh : Has w) {L : FL} (hL : flds S now (l[1]'rq.lo) L) (fit : Fit L) {y x : Int} (hp : prs l[3] = some y) (hy : DiNumMath.InI y) (HPd : DiIncr.Pd L l[2] x 0) (hfb : DiNumMath.fitB (x + y) = false) :
    Calls Tryz.prog 21 #[ptr b, .int .i64 now, .slice a n c] w fun e w' => e = .returned (rp 2 ovB 0) ∧ Dn F X b w w' S := by
  have hfn := rq.hi
  have hk : (l[1]'rq.lo).length ≤ 281474976710656 := rq.bl2 _ (List.getElem_mem _)
  refine HLaw.run_do h now a n c 2 0 ovB fun V X' hS hV => ?_
  refine HRun.run_do hS now hn0 hnM (hl.below hV) rq.lo (by omega) rq.bl2 rq.ch _ (rq.fn0 (by have := rq.lo; omega)) (fun args w => by kernel_rfl) 2 ovB 0 fun V2 a2 c2 hV2 hl2 => ?_
  have h1 : 1 < (l.drop 2).length := by rw [List.length_drop]; omega
  have hw0 : (l.drop 2)[0] = l[2] := by simp
  have hw1 : (l.drop 2)[1] = l[3] := by simp
  have hf := fit.n
  refine HIncw.increment_ok (sp_wide hS hV2) _ hk now hl2 h1 rq.bd ((hh.later hV).later hV2) (y := y) (by rw [hw1]; exact hp) hL fit (by omega) (.inl ⟨rfl, rfl⟩) 2 ovB 0 fun B V3 q q2 d m hq hq2 hsl hh3 hB hd hm => ?_
  have H := HInc.inc1_over b now _ B V3 q q2 d m L x y hq hq2 hsl (by omega) (Nat.le_trans (rq.bd _ (List.getElem_mem _)) (by decide)) hy hh3 fit (by rw [hw0]; exact HPd) hfb hB hd hm
  exact H
end
end Go.Proofs.YtcgdnpcegcmboaaGreatDoor.HNew
