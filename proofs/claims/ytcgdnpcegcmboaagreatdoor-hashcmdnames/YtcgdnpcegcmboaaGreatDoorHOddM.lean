/- HSET with an odd number of words, and HGETALL. The requests that must come whatever the input is (law20). container/heap's up and down, moving EdgeS. -/
import Derived.Test.YtcgdnpcegcmboaaGreatDoorHDoM
import Derived.Test.YtcgdnpcegcmboaaGreatDoorHAllM
import Derived.Test.YtcgdnpcegcmboaaGreatDoorSpaceMathM
section
namespace Go.Proofs.YtcgdnpcegcmboaaGreatDoor.HOdd
open Go.RowKit Go.Maps
open Go.Proofs.YtcgdnpcegcmboaaGreatDoor.SpaceMath (wout withL lkp keys toD)
open Go.Proofs.YtcgdnpcegcmboaaGreatDoor.ValueMath (Vl chk small)
open Go.Proofs.YtcgdnpcegcmboaaGreatDoor.Base (mk mk_list mk_size Gr hid_of SL)
open Go.Proofs.YtcgdnpcegcmboaaGreatDoor.Turn
open Go.Proofs.YtcgdnpcegcmboaaGreatDoor.Vals
open Go.Proofs.YtcgdnpcegcmboaaGreatDoor.Check0 (Wel)
open Go.Proofs.YtcgdnpcegcmboaaGreatDoor.SBase
open Go.Proofs.YtcgdnpcegcmboaaGreatDoor.SFind
open Go.Proofs.YtcgdnpcegcmboaaGreatDoor.SPut (vO)
open Go.Proofs.YtcgdnpcegcmboaaGreatDoor.QBase
open Go.Proofs.YtcgdnpcegcmboaaGreatDoor.HCmd
open Go.Proofs.YtcgdnpcegcmboaaGreatDoor.DiBase (DK)
open Go.Proofs.YtcgdnpcegcmboaaGreatDoor.Parse (Has)
set_option linter.unusedVariables false
set_option linter.unusedSimpArgs false
open Go.Proofs.YtcgdnpcegcmboaaGreatDoor.HFld
open Go.Proofs.YtcgdnpcegcmboaaGreatDoor.HChg (Lay)
open Go.Proofs.YtcgdnpcegcmboaaGreatDoor.HSet (layF)
open Go.Proofs.YtcgdnpcegcmboaaGreatDoor.HDrop (dropF dropF_len)
open Go.Proofs.YtcgdnpcegcmboaaGreatDoor.HRow (RR rpL)
open Go.Proofs.YtcgdnpcegcmboaaGreatDoor.HMap (fnV cmdL)
open Go.Proofs.YtcgdnpcegcmboaaGreatDoor.Low (low)
open Go.Proofs.YtcgdnpcegcmboaaGreatDoor.RowOf (checkS)
open Go.Lib (itoa)
open Go.Proofs.YtcgdnpcegcmboaaGreatDoor.HDo (Rq)
open Go.Proofs.YtcgdnpcegcmboaaGreatDoor.HRun (Ent)
open Go.Proofs.YtcgdnpcegcmboaaGreatDoor.HAll (txt txt_len)
set_option maxHeartbeats 4000000 in
set_option maxRecDepth 100000 in
theorem pairs_no (a : Option Addr) (n c : Nat) (hn : n % 2 = 1) (hl : n < 9223372036854775808) (w : World) :
    Calls Tryz.prog 107 #[.slice a n c] w fun e w' => e = .returned (.bool false) ∧ w' = w := by
  have e1 : ((n : Int) % 2) = 1 := by omega
  have e5 : (0 : Int) ≤ (n : Int) := by omega
  go_enter Tryz.func107, Tryz.ntmps107
  go_wp2_with fail
  go_ret
  exact ⟨by simp [e1], rfl⟩
section
variable {F X : Nat → Prop} {b : Nat} {w : World} {S : Sp}
set_option maxHeartbeats 4000000 in
set_option maxRecDepth 100000 in
theorem set_odd (k : Bs) (now : Int) (a : Option Addr) (n c : Nat) (hn : n % 2 = 1) (hl : n < 9223372036854775808) (w : World) :
    Calls Tryz.prog 65 #[cV b now (mk k) a n c] w fun e w' => e = .returned (rp 2 HDo.arB 0) ∧ Below w.heap.size w w' := by
  obtain ⟨W, hW⟩ : ∃ W, W = (w.alloc (cO b now (mk k) a n c)).alloc (rO 0 ⟨#[]⟩ 0 (.slice none 0 0)) := ⟨_, rfl⟩
  obtain ⟨bW, x0, x1, sW⟩ := two_boxes w (cO b now (mk k) a n c) (rO 0 ⟨#[]⟩ 0 (.slice none 0 0)) ⟨_, _, rfl⟩
  rw [← hW] at bW x0 x1 sW
  have HP := hid_of fun (V : World) => pairs_no a n c hn hl V
  have HR := hid_of fun (V : World) => refused_call HDo.arB V
  have HB := hid_of bW
  have HX1 := hid_of x1
  have HW := hid_of hW
  obtain ⟨⟨c0, c1, c2, c3⟩, -⟩ := box4 x0
  have c3a := c3
  rw [hW] at c3a
  clear hW bW x0 x1 sW hn hl
  generalize mk k = K at *
  go_enter Tryz.func65, Tryz.ntmps65
  go_wp2_with fail
  rw [← HW.out]
  go_wp2_with fail
  refine (HP.out W).mono ?_
  rintro e w0 ⟨rfl, hw0⟩
  have hw0 := hw0.symm
  subst hw0
  go_wp2_with fail
  refine (HR.out W).mono ?_
  rintro e w3 ⟨rfl, b3⟩
  have B3 := hid_of (FRow.bel HB.out b3 (Nat.le_refl _))
  have X3 := hid_of ((b3.block _ (lt_of HX1.out)).trans HX1.out)
  obtain ⟨⟨v0, v1, v2, v3⟩, fv⟩ := box4 X3.out
  have fv0 := fv 0; have fv1 := fv 1; have fv2 := fv 2; have fv3 := fv 3
  clear fv b3 HR HP
  have hz := fin4_at X3.out (.int .i64 2) (.string HDo.arB) (.int .i64 0) (.slice none 0 0)
  have hbz := fin4_b (y0 := .int .i64 2) (y1 := .string HDo.arB) (y2 := .int .i64 0) (y3 := .slice none 0 0) B3.out (show w.heap.size ≤ w.heap.size + 1 by omega)
  unfold fin4 at hz hbz
  have HBZ := hid_of hbz
  have HZ := hid_of hz
  clear hz hbz
  go_wp2_with fail
  obtain ⟨⟨g0, g1, g2, g3⟩, -⟩ := box4 HZ.out
  exact bodyPost_ret (v := rp 2 HDo.arB 0) (by simp [results, Tryz.results65, go_sem, g0, g1, g2, g3]) rfl ⟨rfl, HBZ.out⟩
set_option maxHeartbeats 8000000 in
set_option maxRecDepth 100000 in
theorem read_okR (h : SP F X b w S) (k : Bs) (hk : k.length ≤ 281474976710656) (now : Int) (a : Option Addr) (n c : Nat) {L : FL} (hL : flds S now k L) (fit : Fit L) (g : FuncId) (hent : Ent g) (rk : Int) (rT : ByteArray) (rn : Int) (P : List Bs)
    (hask : ∀ (V : World) (d m : Nat), Below w.heap.size w V → DK d m L V → Calls Tryz.prog g #[ptr d] V fun e w' => ∃ la ln lc, e = .returned (.agg #[.int .i64 rk, .string rT, .int .i64 rn, .slice la ln lc]) ∧ RR V.heap.size w' (.slice la ln lc) P ∧ Below V.heap.size V w') :
    Calls Tryz.prog 90 #[cV b now (mk k) a n c, .func (.func g) #[] #[]] w fun e w' => ∃ la ln lc, e = .returned (.agg #[.int .i64 rk, .string rT, .int .i64 rn, .slice la ln lc]) ∧ RR w.heap.size w' (.slice la ln lc) P ∧ Below w.heap.size w w' := by
  obtain ⟨W, hW⟩ : ∃ W, W = (w.alloc (cO b now (mk k) a n c)).alloc (rO 0 ⟨#[]⟩ 0 (.slice none 0 0)) := ⟨_, rfl⟩
  obtain ⟨bW, x0, x1, sW⟩ := two_boxes w (cO b now (mk k) a n c) (rO 0 ⟨#[]⟩ 0 (.slice none 0 0)) ⟨_, _, rfl⟩
  rw [← hW] at bW x0 x1 sW
  have H1 := hid_of (fields_call (h.below bW) k hk now a n c hL)
  have H2 := hid_of fun (V : World) (a2 : Option Addr) (c2 : Nat) (hf : FRow.FS V (.slice a2 L.length c2) L) => dictOf_call V a2 c2 hf fit
  have H3 := hid_of hask
  have HB := hid_of bW
  have HX1 := hid_of x1
  have HSW := hid_of sW
  have HW := hid_of hW
  obtain ⟨⟨c0, c1, c2, c3⟩, -⟩ := box4 x0
  have t1 : HCmd.Tmp w W (w.heap.size + 1) := ⟨by omega, by rw [HSW.out]; omega⟩
  unfold Ent at hent
  clear hW bW x0 x1 sW h hL fit hask
  generalize mk k = K at *
  go_enter Tryz.func90, Tryz.ntmps90
  go_wp2_with fail
  rw [← HW.out]
  go_wp2_with fail
  refine H1.out.mono ?_
  rintro e w1 ⟨⟨a2, c2', rfl, hf⟩, b1⟩
  have B1 := hid_of (FRow.bel HB.out b1 (Nat.le_refl _))
  have X1 := hid_of ((b1.block _ (lt_of HX1.out)).trans HX1.out)
  have HF := hid_of hf
  have BW1 := hid_of b1
  clear b1 hf H1 c0 c1 c2 c3
  go_wp2_with fail
  refine (H2.out w1 a2 c2' HF.out).mono ?_
  rintro e w2 ⟨⟨d, m, rfl, hd, -, -⟩, b2⟩
  have B2 := hid_of (B1.out.trans (b2.mono B1.out.size))
  have BW2 := hid_of (BW1.out.trans (b2.mono BW1.out.size))
  have X2 := hid_of ((b2.block _ (lt_of X1.out)).trans X1.out)
  have HD := hid_of hd
  have HQ := hid_of (H3.out w2 d m B2.out hd)
  clear b2 hd H2 X1 HF H3
  go_wp2_with (go_at_fn g; refine HQ.out.mono ?_; rintro e w3 ⟨la, ln, lc, rfl, r3, b3⟩; have B3 := hid_of (B2.out.trans (b3.mono B2.out.size)); have BW3 := hid_of (BW2.out.trans (b3.mono BW2.out.size)); have X3 := hid_of ((b3.block _ (lt_of X2.out)).trans X2.out); have R3 := hid_of r3; obtain ⟨⟨v0, v1, v2, v3⟩, fv⟩ := box4 X3.out; have fv0 := fv 0; have fv1 := fv 1; have fv2 := fv 2; have fv3 := fv 3; clear fv b3 r3)
  have hz := fin4_at X3.out (.int .i64 rk) (.string rT) (.int .i64 rn) (.slice la ln lc)
  have hbz := fin4_b (y0 := .int .i64 rk) (y1 := .string rT) (y2 := .int .i64 rn) (y3 := .slice la ln lc) B3.out (show w.heap.size ≤ w.heap.size + 1 by omega)
  have hrr := HLaw.rr_ev (w := w) (V := W) (FRow.row_mono R3.out BW2.out.size) HB.out.size (ev_fin4 (w := w) (W := W) (w1 := w3) t1 (.int .i64 rk) (.string rT) (.int .i64 rn) (.slice la ln lc))
  unfold fin4 at hz hbz hrr
  obtain ⟨⟨g0, g1, g2, g3⟩, -⟩ := box4 hz
  exact bodyPost_ret (v := .agg #[.int .i64 rk, .string rT, .int .i64 rn, .slice la ln lc]) (by simp [results, Tryz.results90, go_sem, g0, g1, g2, g3]) rfl ⟨la, ln, lc, rfl, hrr, hbz⟩
set_option maxHeartbeats 8000000 in
set_option maxRecDepth 100000 in
theorem all_callR (h : SP F X b w S) (k : Bs) (hk : k.length ≤ 281474976710656) (now : Int) (a : Option Addr) (n c : Nat) {L : FL} (hL : flds S now k L) (fit : Fit L) (rk : Int) (rT : ByteArray) (rn : Int) (P : List Bs)
    (hask : ∀ (V : World) (d m q : Nat), Below w.heap.size w V → V.heap[q]? = some (cO b now (mk k) a n c) → DK d m L V → Calls Tryz.prog 95 #[ptr d] V fun e w' => ∃ la ln lc, e = .returned (.agg #[.int .i64 rk, .string rT, .int .i64 rn, .slice la ln lc]) ∧ RR V.heap.size w' (.slice la ln lc) P ∧ Below V.heap.size V w') :
    Calls Tryz.prog 58 #[cV b now (mk k) a n c] w fun e w' => ∃ la ln lc, e = .returned (.agg #[.int .i64 rk, .string rT, .int .i64 rn, .slice la ln lc]) ∧ RR w.heap.size w' (.slice la ln lc) P ∧ Below w.heap.size w w' := by
  obtain ⟨W, hW⟩ : ∃ W, W = (w.alloc (cO b now (mk k) a n c)).alloc (rO 0 ⟨#[]⟩ 0 (.slice none 0 0)) := ⟨_, rfl⟩
  obtain ⟨bW, x0, x1, sW⟩ := two_boxes w (cO b now (mk k) a n c) (rO 0 ⟨#[]⟩ 0 (.slice none 0 0)) ⟨_, _, rfl⟩
  rw [← hW] at bW x0 x1 sW
  have H1 := hid_of (read_okR (h.below bW) k hk now a n c hL fit 95 (fun args w => by kernel_rfl) rk rT rn P
    (fun V d m hV hd => hask V d m w.heap.size (bW.trans (hV.mono bW.size)) ((hV.block _ (lt_of x0)).trans x0) hd))
  have HB := hid_of bW
  have HX1 := hid_of x1
  have HSW := hid_of sW
  have HW := hid_of hW
  obtain ⟨⟨c0, c1, c2, c3⟩, -⟩ := box4 x0
  have t1 : HCmd.Tmp w W (w.heap.size + 1) := ⟨by omega, by rw [HSW.out]; omega⟩
  clear hW bW x0 x1 sW h hL fit hask
  generalize mk k = K at *
  go_enter Tryz.func58, Tryz.ntmps58
  go_wp2_with fail
  rw [← HW.out]
  go_wp2_with fail
  refine H1.out.mono ?_
  rintro e w3 ⟨la, ln, lc, rfl, r3, b3⟩
  have B3 := hid_of (FRow.bel HB.out b3 (Nat.le_refl _))
  have X3 := hid_of ((b3.block _ (lt_of HX1.out)).trans HX1.out)
  have R3 := hid_of r3
  obtain ⟨⟨v0, v1, v2, v3⟩, fv⟩ := box4 X3.out
  have fv0 := fv 0; have fv1 := fv 1; have fv2 := fv 2; have fv3 := fv 3
  clear fv b3 r3 H1
  go_wp2_with fail
  have hz := fin4_at X3.out (.int .i64 rk) (.string rT) (.int .i64 rn) (.slice la ln lc)
  have hbz := fin4_b (y0 := .int .i64 rk) (y1 := .string rT) (y2 := .int .i64 rn) (y3 := .slice la ln lc) B3.out (show w.heap.size ≤ w.heap.size + 1 by omega)
  have hrr := HLaw.rr_ev (w := w) (V := W) R3.out HB.out.size (ev_fin4 (w := w) (W := W) (w1 := w3) t1 (.int .i64 rk) (.string rT) (.int .i64 rn) (.slice la ln lc))
  unfold fin4 at hz hbz hrr
  obtain ⟨⟨g0, g1, g2, g3⟩, -⟩ := box4 hz
  exact bodyPost_ret (v := .agg #[.int .i64 rk, .string rT, .int .i64 rn, .slice la ln lc]) (by simp [results, Tryz.results58, go_sem, g0, g1, g2, g3]) rfl ⟨la, ln, lc, rfl, hrr, hbz⟩
theorem run_set_odd (h : SP F X b w S) (now : Int) (hn0 : 0 ≤ now) (hnM : now ≤ 9007199254740992) {G : Nat → Prop} {a : Option Addr} {n c : Nat} {l : List Base.El} (hl : SL G w (.slice a n c) l) (rq : Rq l 65) (hodd : (l.drop 2).length % 2 = 1) :
    Calls Tryz.prog 21 #[ptr b, .int .i64 now, .slice a n c] w fun e w' => e = .returned (rp 2 HDo.arB 0) ∧ Dn F X b w w' S := by
  have hfn := rq.hi
  have hnl := (sl_get hl).1
  refine HLaw.run_do h now a n c 2 0 HDo.arB fun V X' hS hV => ?_
  refine HRun.run_do hS now hn0 hnM (hl.below hV) rq.lo (by omega) rq.bl2 rq.ch _ (rq.fn0 (by have := rq.lo; omega)) (fun args w => by kernel_rfl) 2 HDo.arB 0 fun V2 a2 c2 hV2 hl2 => ?_
  exact (set_odd _ now a2 _ c2 (by rw [List.length_drop] at hodd; omega) (by omega) V2).mono fun e w' ⟨h1, h2⟩ => ⟨h1, Dn.of (sp_wide hS hV2) h2⟩
theorem run_all (h : SP F X b w S) (now : Int) (hn0 : 0 ≤ now) (hnM : now ≤ 9007199254740992) {G : Nat → Prop} {a : Option Addr} {n c : Nat} {l : List Base.El} (hl : SL G w (.slice a n c) l) (rq : Rq l 58) {L : FL} (hL : flds S now (l[1]'rq.lo) L) (fit : Fit L) :
    Calls Tryz.prog 21 #[ptr b, .int .i64 now, .slice a n c] w fun e w' => ∃ v, e = .returned (rpL v) ∧ RR w.heap.size w' v (txt L) ∧ Dn F X b w w' S := by
  have hfn := rq.hi
  have hk : (l[1]'rq.lo).length ≤ 281474976710656 := rq.bl2 _ (List.getElem_mem _)
  refine (HLaw.run_any h now a n c 6 0 ⟨#[]⟩ (fun V la ln lc w1 => RR V.heap.size w1 (.slice la ln lc) (txt L)) (fun la ln lc w1 => RR w.heap.size w1 (.slice la ln lc) (txt L)) (fun V la ln lc w1 w2 hV hr he => HLaw.rr_ev hr hV.size he) fun V X' hS hV => ?_).mono fun e w' ⟨la, ln, lc, h1, h2, h3⟩ => ⟨_, h1, h2, h3⟩
  refine HRun.run_any hS now hn0 hnM (hl.below hV) rq.lo (by omega) rq.bl2 rq.ch _ (rq.fn0 (by have := rq.lo; omega)) (fun args w => by kernel_rfl) 6 ⟨#[]⟩ 0 (fun V2 la ln lc w1 => RR V2.heap.size w1 (.slice la ln lc) (txt L)) (fun la ln lc w1 => RR V.heap.size w1 (.slice la ln lc) (txt L)) (fun V2 la ln lc w1 w2 hV hr he => HLaw.rr_ev hr hV.size he) fun V2 a2 c2 hV2 hl2 => ?_
  refine (all_callR (sp_wide hS hV2) _ hk now a2 _ c2 hL fit 6 ⟨#[]⟩ 0 (txt L) fun V3 d m q hV3 hq hd => ?_).mono fun e w' ⟨la, ln, lc, h1, h2, h3⟩ => ⟨la, ln, lc, h1, h2, Dn.of (sp_wide hS hV2) h3⟩
  have hf := fit.n
  refine (HAll.all1_call V3 d m hd (by omega)).mono ?_
  rintro e w' ⟨v, rfl, hr, hb⟩
  obtain ⟨la, ln, lc, rfl⟩ : ∃ la ln lc, v = .slice la ln lc := by
    rcases hr.2 with ⟨e, _⟩ | ⟨g, cap, cur, e, _⟩
    · exact ⟨_, _, _, e⟩
    · exact ⟨_, _, _, e⟩
  exact ⟨la, ln, lc, rfl, hr, hb⟩
end
end Go.Proofs.YtcgdnpcegcmboaaGreatDoor.HOdd
end
section
namespace Go.Proofs.YtcgdnpcegcmboaaGreatDoor.HReq
open Go.RowKit Go.Maps
open Go.Proofs.YtcgdnpcegcmboaaGreatDoor.SpaceMath (wout withL lkp keys toD)
open Go.Proofs.YtcgdnpcegcmboaaGreatDoor.ValueMath (Vl chk small)
open Go.Proofs.YtcgdnpcegcmboaaGreatDoor.Base (mk mk_list mk_size Gr hid_of SL)
open Go.Proofs.YtcgdnpcegcmboaaGreatDoor.Turn
open Go.Proofs.YtcgdnpcegcmboaaGreatDoor.Vals
open Go.Proofs.YtcgdnpcegcmboaaGreatDoor.Check0 (Wel)
open Go.Proofs.YtcgdnpcegcmboaaGreatDoor.SBase
open Go.Proofs.YtcgdnpcegcmboaaGreatDoor.SFind
open Go.Proofs.YtcgdnpcegcmboaaGreatDoor.SPut (vO)
open Go.Proofs.YtcgdnpcegcmboaaGreatDoor.QBase
open Go.Proofs.YtcgdnpcegcmboaaGreatDoor.HCmd
open Go.Proofs.YtcgdnpcegcmboaaGreatDoor.DiBase (DK)
open Go.Proofs.YtcgdnpcegcmboaaGreatDoor.Parse (Has)
set_option linter.unusedVariables false
set_option linter.unusedSimpArgs false
open Go.Proofs.YtcgdnpcegcmboaaGreatDoor.HFld
open Go.Proofs.YtcgdnpcegcmboaaGreatDoor.HChg (Lay)
open Go.Proofs.YtcgdnpcegcmboaaGreatDoor.HSet (layF)
open Go.Proofs.YtcgdnpcegcmboaaGreatDoor.HDrop (dropF dropF_len)
open Go.Proofs.YtcgdnpcegcmboaaGreatDoor.HRow (RR rpL)
open Go.Proofs.YtcgdnpcegcmboaaGreatDoor.HMap (fnV cmdL)
open Go.Proofs.YtcgdnpcegcmboaaGreatDoor.Low (low)
open Go.Proofs.YtcgdnpcegcmboaaGreatDoor.RowOf (checkS)
open Go.Lib (itoa)
open Go.Proofs.YtcgdnpcegcmboaaGreatDoor.HDo
open Go.Proofs.YtcgdnpcegcmboaaGreatDoor.HOdd
open Go.Proofs.YtcgdnpcegcmboaaGreatDoor.HLay (hV pH)
theorem sl_row {W : World} {q : Nat} (l : List Base.El) (h : W.heap[q]? = some (.cells (l.map Base.V).toArray 9 (0, 0))) : SL (fun _ => True) W (.slice (some ⟨q, 0, none⟩) l.length l.length) l := by
  refine ⟨_, l.length, rfl, Nat.le_refl _, .inr ⟨q, 0, rfl, trivial, fun j x hj => ?_⟩⟩
  rw [Lib.cell_of_heap h, Nat.zero_add]
  simp [hj]
abbrev S0 : Sp := ⟨[], 0, none⟩
abbrev L0 : FL := []
theorem room0 : HCmd.Room S0 := ⟨rfl, by decide, by decide⟩
theorem fit0 : Fit L0 := ⟨.nil, by decide, by decide⟩
theorem fl0 : flds S0 0 [104] L0 := .inl ⟨rfl, rfl⟩
abbrev S1 : Sp := ⟨[([104], ⟨hV [([97], [49]), ([98], [50])], 0, 1⟩)], 1, none⟩
abbrev L1 : FL := [([97], [49]), ([98], [50])]
theorem room1 : HCmd.Room S1 := ⟨rfl, by decide, by decide⟩
theorem fit1 : Fit L1 := ⟨by unfold DiDictMath.Ris; decide, by decide, by decide⟩
theorem fl1 : flds S1 0 [104] L1 := .inr ⟨_, rfl, rfl, rfl⟩
abbrev S2 : Sp := ⟨[([104], ⟨hV [([97], [51]), ([98], [50])], 0, 2⟩)], 2, none⟩
abbrev L2 : FL := [([97], [51]), ([98], [50])]
theorem room2 : HCmd.Room S2 := ⟨rfl, by decide, by decide⟩
theorem fit2 : Fit L2 := ⟨by unfold DiDictMath.Ris; decide, by decide, by decide⟩
theorem fl2 : flds S2 0 [104] L2 := .inr ⟨_, rfl, rfl, rfl⟩
abbrev S3 : Sp := ⟨[([104], ⟨hV [([97], [55]), ([98], [50])], 0, 3⟩)], 3, none⟩
abbrev L3 : FL := [([97], [55]), ([98], [50])]
theorem room3 : HCmd.Room S3 := ⟨rfl, by decide, by decide⟩
theorem fit3 : Fit L3 := ⟨by unfold DiDictMath.Ris; decide, by decide, by decide⟩
theorem fl3 : flds S3 0 [104] L3 := .inr ⟨_, rfl, rfl, rfl⟩
abbrev S4 : Sp := ⟨[], 4, none⟩
abbrev L4 : FL := []
theorem room4 : HCmd.Room S4 := ⟨rfl, by decide, by decide⟩
theorem fit4 : Fit L4 := ⟨.nil, by decide, by decide⟩
theorem fl4 : flds S4 0 [104] L4 := .inl ⟨rfl, rfl⟩
abbrev S5 : Sp := ⟨[([104], ⟨hV [([97], [49])], 0, 5⟩)], 5, none⟩
abbrev L5 : FL := [([97], [49])]
theorem room5 : HCmd.Room S5 := ⟨rfl, by decide, by decide⟩
theorem fit5 : Fit L5 := ⟨by unfold DiDictMath.Ris; decide, by decide, by decide⟩
theorem fl5 : flds S5 0 [104] L5 := .inr ⟨_, rfl, rfl, rfl⟩
abbrev l0 : List Base.El := [[72, 83, 69, 84], [104], [97], [49], [98], [50]]
theorem rq0 : Rq l0 65 := ⟨by kernel_rfl, by decide, by decide, by decide, by kernel_rfl⟩
abbrev l1 : List Base.El := [[104, 115, 101, 116], [104], [97], [51]]
theorem rq1 : Rq l1 65 := ⟨by kernel_rfl, by decide, by decide, by decide, by kernel_rfl⟩
abbrev l2 : List Base.El := [[104, 115, 101, 116], [104], [97], [49], [98]]
theorem rq2 : Rq l2 65 := ⟨by kernel_rfl, by decide, by decide, by decide, by kernel_rfl⟩
abbrev l3 : List Base.El := [[104, 105, 110, 99, 114, 98, 121], [104], [97], [52]]
theorem rq3 : Rq l3 59 := ⟨by kernel_rfl, by decide, by decide, by decide, by kernel_rfl⟩
abbrev l4 : List Base.El := [[104, 105, 110, 99, 114, 98, 121], [104], [97], [120]]
theorem rq4 : Rq l4 59 := ⟨by kernel_rfl, by decide, by decide, by decide, by kernel_rfl⟩
abbrev l5 : List Base.El := [[104, 103, 101, 116], [104], [97]]
theorem rq5 : Rq l5 57 := ⟨by kernel_rfl, by decide, by decide, by decide, by kernel_rfl⟩
abbrev l6 : List Base.El := [[104, 103, 101, 116], [104], [113]]
theorem rq6 : Rq l6 57 := ⟨by kernel_rfl, by decide, by decide, by decide, by kernel_rfl⟩
abbrev l7 : List Base.El := [[104, 103, 101, 116, 97, 108, 108], [104]]
theorem rq7 : Rq l7 58 := ⟨by kernel_rfl, by decide, by decide, by decide, by kernel_rfl⟩
abbrev l8 : List Base.El := [[104, 100, 101, 108], [104], [97], [97], [98]]
theorem rq8 : Rq l8 55 := ⟨by kernel_rfl, by decide, by decide, by decide, by kernel_rfl⟩
abbrev l9 : List Base.El := [[104, 108, 101, 110], [104]]
theorem rq9 : Rq l9 61 := ⟨by kernel_rfl, by decide, by decide, by decide, by kernel_rfl⟩
abbrev l10 : List Base.El := [[104, 109, 115, 101, 116], [104], [97], [49]]
theorem rq10 : Rq l10 63 := ⟨by kernel_rfl, by decide, by decide, by decide, by kernel_rfl⟩
theorem num4 : prs [52] = some 4 := by kernel_rfl
theorem numx : prs [120] = none := by kernel_rfl
section
variable {F X : Nat → Prop} {b : Nat} {w : World}
theorem req0 (h : SP F X b w S0) {q : Nat} (hq : w.heap[q]? = some (.cells #[.string ⟨#[72, 83, 69, 84]⟩, .string ⟨#[104]⟩, .string ⟨#[97]⟩, .string ⟨#[49]⟩, .string ⟨#[98]⟩, .string ⟨#[50]⟩] 9 (0, 0))) :
    Calls Tryz.prog 21 #[ptr b, .int .i64 0, .slice (some ⟨q, 0, none⟩) 6 6] w fun e w' => e = .returned (rp 3 ⟨#[]⟩ 2) ∧ Dn F X b w w' S1 := by
  have hl : Lay S0 0 [104] L0 (layF L0 (l0.drop 2)).1 S1 := by rw [show (layF L0 (l0.drop 2)).1 = L1 by kernel_rfl]; exact .inr (.inl ⟨by decide, by decide, by decide, fit1, room0, by kernel_rfl⟩)
  have H := run_set h 0 (by decide) (by decide) (sl_row l0 hq) rq0 (by decide) (L := L0) fl0 fit0 hl
  exact H
theorem req1 (h : SP F X b w S1) {q : Nat} (hq : w.heap[q]? = some (.cells #[.string ⟨#[104, 115, 101, 116]⟩, .string ⟨#[104]⟩, .string ⟨#[97]⟩, .string ⟨#[51]⟩] 9 (0, 0))) :
    Calls Tryz.prog 21 #[ptr b, .int .i64 0, .slice (some ⟨q, 0, none⟩) 4 4] w fun e w' => e = .returned (rp 3 ⟨#[]⟩ 0) ∧ Dn F X b w w' S2 := by
  have hl : Lay S1 0 [104] L1 (layF L1 (l1.drop 2)).1 S2 := by rw [show (layF L1 (l1.drop 2)).1 = L2 by kernel_rfl]; exact .inr (.inl ⟨by decide, by decide, by decide, fit2, room1, by kernel_rfl⟩)
  have H := run_set h 0 (by decide) (by decide) (sl_row l1 hq) rq1 (by decide) (L := L1) fl1 fit1 hl
  exact H
theorem req2 (h : SP F X b w S2) {q : Nat} (hq : w.heap[q]? = some (.cells #[.string ⟨#[104, 115, 101, 116]⟩, .string ⟨#[104]⟩, .string ⟨#[97]⟩, .string ⟨#[49]⟩, .string ⟨#[98]⟩] 9 (0, 0))) :
    Calls Tryz.prog 21 #[ptr b, .int .i64 0, .slice (some ⟨q, 0, none⟩) 5 5] w fun e w' => e = .returned (rp 2 HDo.arB 0) ∧ Dn F X b w w' S2 := by
  exact run_set_odd h 0 (by decide) (by decide) (sl_row l2 hq) rq2 (by decide)
theorem req3 (h : SP F X b w S2) (hh : Has w) {q : Nat} (hq : w.heap[q]? = some (.cells #[.string ⟨#[104, 105, 110, 99, 114, 98, 121]⟩, .string ⟨#[104]⟩, .string ⟨#[97]⟩, .string ⟨#[52]⟩] 9 (0, 0))) :
    Calls Tryz.prog 21 #[ptr b, .int .i64 0, .slice (some ⟨q, 0, none⟩) 4 4] w fun e w' => e = .returned (rp 3 ⟨#[]⟩ 7) ∧ Dn F X b w w' S3 := by
  have hl : Lay S2 0 [104] L2 (DiDictMath.withL L2 [97] (itoa (3 + 4))) S3 := by rw [show DiDictMath.withL L2 [97] (itoa (3 + 4)) = L3 by kernel_rfl]; exact .inr (.inl ⟨by decide, by decide, by decide, fit3, room2, by kernel_rfl⟩)
  exact run_incr h 0 (by decide) (by decide) (sl_row l3 hq) rq3 (by decide) hh (L := L2) fl2 fit2 (y := 4) (x := 3) num4 (by unfold DiNumMath.InI; decide) (show TextMath.Parsed [51] 3 0 from .inl ⟨prs_some (by kernel_rfl), rfl⟩) (by decide) hl
theorem req4 (h : SP F X b w S3) (hh : Has w) {q : Nat} (hq : w.heap[q]? = some (.cells #[.string ⟨#[104, 105, 110, 99, 114, 98, 121]⟩, .string ⟨#[104]⟩, .string ⟨#[97]⟩, .string ⟨#[120]⟩] 9 (0, 0))) :
    Calls Tryz.prog 21 #[ptr b, .int .i64 0, .slice (some ⟨q, 0, none⟩) 4 4] w fun e w' => e = .returned (rp 2 numB 0) ∧ Dn F X b w w' S3 := by
  exact run_incr_bad h 0 (by decide) (by decide) (sl_row l4 hq) rq4 (by decide) hh numx
theorem req5 (h : SP F X b w S3) {q : Nat} (hq : w.heap[q]? = some (.cells #[.string ⟨#[104, 103, 101, 116]⟩, .string ⟨#[104]⟩, .string ⟨#[97]⟩] 9 (0, 0))) :
    Calls Tryz.prog 21 #[ptr b, .int .i64 0, .slice (some ⟨q, 0, none⟩) 3 3] w fun e w' => e = .returned (rp 4 (mk [55]) 0) ∧ Dn F X b w w' S3 := by
  exact run_get_yes h 0 (by decide) (by decide) (sl_row l5 hq) rq5 (by decide) (L := L3) fl3 fit3 (by kernel_rfl)
theorem req6 (h : SP F X b w S3) {q : Nat} (hq : w.heap[q]? = some (.cells #[.string ⟨#[104, 103, 101, 116]⟩, .string ⟨#[104]⟩, .string ⟨#[113]⟩] 9 (0, 0))) :
    Calls Tryz.prog 21 #[ptr b, .int .i64 0, .slice (some ⟨q, 0, none⟩) 3 3] w fun e w' => e = .returned (rp 5 ⟨#[]⟩ 0) ∧ Dn F X b w w' S3 := by
  exact run_get_no h 0 (by decide) (by decide) (sl_row l6 hq) rq6 (by decide) (L := L3) fl3 fit3 (by kernel_rfl)
theorem req7 (h : SP F X b w S3) {q : Nat} (hq : w.heap[q]? = some (.cells #[.string ⟨#[104, 103, 101, 116, 97, 108, 108]⟩, .string ⟨#[104]⟩] 9 (0, 0))) :
    Calls Tryz.prog 21 #[ptr b, .int .i64 0, .slice (some ⟨q, 0, none⟩) 2 2] w fun e w' => ∃ v, e = .returned (rpL v) ∧ RR w.heap.size w' v [[97], [55], [98], [50]] ∧ Dn F X b w w' S3 :=
  run_all h 0 (by decide) (by decide) (sl_row l7 hq) rq7 (L := L3) fl3 fit3
theorem req8 (h : SP F X b w S3) {q : Nat} (hq : w.heap[q]? = some (.cells #[.string ⟨#[104, 100, 101, 108]⟩, .string ⟨#[104]⟩, .string ⟨#[97]⟩, .string ⟨#[97]⟩, .string ⟨#[98]⟩] 9 (0, 0))) :
    Calls Tryz.prog 21 #[ptr b, .int .i64 0, .slice (some ⟨q, 0, none⟩) 5 5] w fun e w' => e = .returned (rp 3 ⟨#[]⟩ 2) ∧ Dn F X b w w' S4 := by
  have hl : Lay S3 0 [104] L3 (dropF L3 (l8.drop 2)).1 S4 := by rw [show (dropF L3 (l8.drop 2)).1 = [] by kernel_rfl]; exact .inr (.inr ⟨by decide, rfl, room3, ⟨_, rfl⟩, by kernel_rfl⟩)
  exact run_drop h 0 (by decide) (by decide) (sl_row l8 hq) rq8 (L := L3) fl3 fit3 hl
theorem req9 (h : SP F X b w S4) {q : Nat} (hq : w.heap[q]? = some (.cells #[.string ⟨#[104, 108, 101, 110]⟩, .string ⟨#[104]⟩] 9 (0, 0))) :
    Calls Tryz.prog 21 #[ptr b, .int .i64 0, .slice (some ⟨q, 0, none⟩) 2 2] w fun e w' => e = .returned (rp 3 ⟨#[]⟩ 0) ∧ Dn F X b w w' S4 := by
  exact run_length h 0 (by decide) (by decide) (sl_row l9 hq) rq9 (L := L4) fl4 fit4
theorem req10 (h : SP F X b w S4) {q : Nat} (hq : w.heap[q]? = some (.cells #[.string ⟨#[104, 109, 115, 101, 116]⟩, .string ⟨#[104]⟩, .string ⟨#[97]⟩, .string ⟨#[49]⟩] 9 (0, 0))) :
    Calls Tryz.prog 21 #[ptr b, .int .i64 0, .slice (some ⟨q, 0, none⟩) 4 4] w fun e w' => e = .returned (rp 1 okB 0) ∧ Dn F X b w w' S5 := by
  have hl : Lay S4 0 [104] L4 (layF L4 (l10.drop 2)).1 S5 := by rw [show (layF L4 (l10.drop 2)).1 = L5 by kernel_rfl]; exact .inr (.inl ⟨by decide, by decide, by decide, fit5, room4, by kernel_rfl⟩)
  have H := run_setSeveral h 0 (by decide) (by decide) (sl_row l10 hq) rq10 (by decide) (L := L4) fl4 fit4 hl
  exact H
end
end Go.Proofs.YtcgdnpcegcmboaaGreatDoor.HReq
end
section
namespace Go.Proofs.YtcgdnpcegcmboaaGreatDoor.Heap
open Go.RowKit
open Go.Proofs.YtcgdnpcegcmboaaGreatDoor.HeapMath
set_option linter.unusedVariables false
set_option linter.unusedSimpArgs false
set_option maxHeartbeats 1000000 in
set_option maxRecDepth 100000 in
theorem upEdgeS {α : Type} [Inhabited α] [DecidableEq α] {lt : α → α → Prop} [DecidableRel lt] (o : STO lt) (pv : Value) {R : World → List α → Prop} {F : World → World → Prop} (M : Moves 263 266 lt pv R F) (w : World) (l : List α) (n j : Nat) (h : R w l) (hn : n ≤ l.length) (hb : l.length ≤ 1099511627776) (hj : j < n) (hu : Up lt l n j) :
    Calls Tryz.prog 158 #[.iface 235 pv, .int .i64 (j : Int)] w fun e w' => e = .returned (.tuple #[]) ∧ (∃ l', R w' l' ∧ Was lt n l l') ∧ F w w' := by
  have HM := hid_of M
  have HO := hid_of o
  have I0 := hid_of (show R w l ∧ Up lt l n j ∧ l.Perm l ∧ (∀ k, n ≤ k → pl l k = pl l k) ∧ F w w from ⟨h, hu, List.Perm.refl _, fun _ _ => rfl, M.refl w⟩)
  have HN := hid_of hn
  clear M o h hu hn
  go_enter Tryz.func158, Tryz.ntmps158
  go_wp2_with fail
  go_loopg [1] j (fun g s1 wx => ∃ (p : Nat) (m : List α), p ≤ g ∧ p < n ∧ s1 = .int .i64 (p : Int) ∧ Hid (R wx m ∧ Up lt m n p ∧ m.Perm l ∧ (∀ k, n ≤ k → pl m k = pl l k) ∧ F w wx))
  case atStart => exact ⟨j, l, Nat.le_refl _, hj, rfl, hid_of ⟨I0.out.1, I0.out.2.1, I0.out.2.2.1, fun _ _ => rfl, I0.out.2.2.2.2⟩⟩
  case round =>
    obtain ⟨p, m, hpg, hpn, rfl, I⟩ := hrel
    have hpb : p ≤ 1099511627776 := by have := HN.out; omega
    have HL := hid_of (I.out.2.2.1.length_eq)
    rcases (show p = 0 ∨ 0 < p by omega) with hp0 | hp0
    · have HF := hid_of (I.out.2.1.fin (.inl hp0))
      subst hp0
      go_wp2_with fail
      go_end0
      exact ⟨rfl, ⟨m, I.out.1, HF.out, I.out.2.2.1, I.out.2.2.2.1⟩, I.out.2.2.2.2⟩
    · obtain ⟨q, HQ⟩ : ∃ q, Hid (q = par p) := ⟨_, hid_of rfl⟩
      have hq : ((p : Int) - 1) / 2 = (q : Int) := by rw [HQ.out]; unfold par; omega
      have hqp : q < p := by rw [HQ.out]; exact par_lt hp0
      have hne : ((q : Int) == (p : Int)) = false := by rw [beq_eq_false_iff_ne]; omega
      have HC := hid_of (HM.out.less wr m p q I.out.1 (by rw [HL.out]; have := HN.out; omega) (by rw [HL.out]; have := HN.out; omega))
      cases hd : decide (lt (pl m p) (pl m q)) with
      | false =>
        have hnl : ¬ lt (pl m p) (pl m (par p)) := by rw [← HQ.out]; exact of_decide_eq_false hd
        have HF := hid_of (I.out.2.1.fin (.inr hnl))
        rw [hd] at HC
        clear hnl hd
        go_wp2_with fail
        refine HC.out.mono ?_
        rintro e w1 ⟨rfl, r1, f1⟩
        have R1 := hid_of (And.intro r1 (HM.out.trans _ _ _ I.out.2.2.2.2 f1))
        clear r1 f1
        go_wp2_with fail
        go_end0
        exact ⟨rfl, ⟨m, R1.out.1, HF.out, I.out.2.2.1, I.out.2.2.2.1⟩, R1.out.2⟩
      | true =>
        obtain ⟨g', rfl⟩ : ∃ g', gk = g' + 1 := ⟨gk - 1, by omega⟩
        have hl : lt (pl m p) (pl m (par p)) := by rw [← HQ.out]; exact of_decide_eq_true hd
        have hml : n ≤ m.length := by rw [HL.out]; exact HN.out
        have HS := hid_of (I.out.2.1.step HO.out hml hp0 hpn hl)
        rw [← HQ.out] at HS
        have HP := hid_of ((swp_perm (l := m) (i := q) (j := p) (by omega) (by omega)).trans I.out.2.2.1)
        have HK := hid_of (fun k (hk : n ≤ k) => (show pl (swp m q p) k = pl l k by rw [swp_at (by omega) (by omega), if_neg (by omega), if_neg (by omega)]; exact I.out.2.2.2.1 k hk))
        rw [hd] at HC
        clear hd hl hml
        go_wp2_with fail
        refine HC.out.mono ?_
        rintro e w1 ⟨rfl, r1, f1⟩
        have HC2 := hid_of (HM.out.swap w1 m q p r1 (by rw [HL.out]; have := HN.out; omega) (by rw [HL.out]; have := HN.out; omega))
        have F1 := hid_of (HM.out.trans _ _ _ I.out.2.2.2.2 f1)
        clear r1 f1 HC
        go_wp2_with fail
        refine HC2.out.mono ?_
        rintro e w2 ⟨rfl, r2, f2⟩
        have I2 := hid_of (show R w2 (swp m q p) ∧ Up lt (swp m q p) n q ∧ (swp m q p).Perm l ∧ (∀ k, n ≤ k → pl (swp m q p) k = pl l k) ∧ F w w2 from ⟨r2, HS.out, HP.out, HK.out, HM.out.trans _ _ _ F1.out f2⟩)
        clear r2 f2 HC2 HS HP HK F1 I
        go_wp2_with fail
        go_roundg g'
        case measure => omega
        case rel => exact ⟨q, swp m q p, by omega, by omega, rfl, I2⟩
set_option maxHeartbeats 4000000 in
set_option maxRecDepth 100000 in
theorem downEdgeS {α : Type} [Inhabited α] [DecidableEq α] {lt : α → α → Prop} [DecidableRel lt] (o : STO lt) (pv : Value) {R : World → List α → Prop} {F : World → World → Prop} (M : Moves 263 266 lt pv R F) (w : World) (l : List α) (n i0 : Nat) (h : R w l) (hn : n ≤ l.length) (hb : l.length ≤ 1099511627776) (hi : i0 < n) (hd : D0 lt l n i0) :
    Calls Tryz.prog 157 #[.iface 235 pv, .int .i64 (i0 : Int), .int .i64 (n : Int)] w fun e w' => DownE lt n i0 l R F w e w' := by
  have HM := hid_of M
  have HO := hid_of o
  have HD := hid_of hd
  have I0 := hid_of (And.intro h (M.refl w))
  have HN := hid_of hn
  clear M o h hd hn
  go_enter Tryz.func157, Tryz.ntmps157
  go_wp2_with fail
  go_loopg [7] n (fun g s7 wx => ∃ (i : Nat) (m : List α), n ≤ i + g ∧ i < n ∧ i0 ≤ i ∧ s7 = .int .i64 (i : Int) ∧ Hid (R wx m ∧ Mid lt n i0 i l m ∧ F w wx))
  case atStart => exact ⟨i0, l, by omega, hi, Nat.le_refl _, rfl, hid_of ⟨I0.out.1, Mid.start HD.out, I0.out.2⟩⟩
  case round =>
    obtain ⟨i, m, hig, hin, hi0, rfl, I⟩ := hrel
    have hib : i ≤ 1099511627776 := by have := HN.out; omega
    have HL := hid_of (I.out.2.1.perm.length_eq)
    have hml : n ≤ m.length := by rw [HL.out]; exact HN.out
    have gt0 : (((i : Int)) > (i0 : Int)) = ((i0 : Int) < (i : Int)) := rfl
    obtain ⟨j1, HJ1⟩ : ∃ j1, Hid (j1 = 2 * i + 1) := ⟨_, hid_of rfl⟩
    have hj1 : 2 * (i : Int) + 1 = (j1 : Int) := by rw [HJ1.out]; omega
    have hj1b : i < j1 := by rw [HJ1.out]; omega
    by_cases hc1 : n ≤ j1
    · have HE := hid_of (I.out.2.1.fin HO.out (fun k hk hkn hkp => absurd hkn (by have := (par_eq hk).1 hkp; have := HJ1.out; omega)))
      have g1 : (n : Int) ≤ (j1 : Int) := by omega
      go_wp2_with fail
      go_ret
      exact ⟨decide (i0 < i), m, rfl, I.out.1, HE.out, I.out.2.2⟩
    · have g1 : (j1 : Int) < (n : Int) := by omega
      have hj1n : j1 < n := by omega
      obtain ⟨j2, HJ2⟩ : ∃ j2, Hid (j2 = j1 + 1) := ⟨_, hid_of rfl⟩
      have hj2 : (j1 : Int) + 1 = (j2 : Int) := by rw [HJ2.out]; omega
      have kid : Hid (∀ k, 0 < k → k < n → par k = i → k = j1 ∨ k = j2) := fun k hk hkn hkp => by have := (par_eq hk).1 hkp; have := HJ1.out; have := HJ2.out; omega
      have HLs := fun (W : World) (hW : R W m) (a b : Nat) (ha : a < n) (hb : b < n) => HM.out.less W m a b hW (by omega) (by omega)
      have HLS := hid_of HLs
      have HSW := hid_of (fun (W : World) (hW : R W m) (a b : Nat) (ha : a < n) (hb : b < n) => HM.out.swap W m a b hW (by omega) (by omega))
      clear HLs
      by_cases hc2 : j2 < n
      · have g2 : (j2 : Int) < (n : Int) := by omega
        have HC0 := hid_of (HLS.out wr I.out.1 j2 j1 hc2 hj1n)
        cases hd1 : decide (lt (pl m j2) (pl m j1)) with
        | true =>
          have hl1 : lt (pl m j2) (pl m j1) := of_decide_eq_true hd1
          rw [hd1] at HC0
          have HLT := hid_of hl1
          clear hl1 hd1
          go_wp2_with fail
          refine HC0.out.mono ?_
          rintro e w4 ⟨rfl, r4, f4⟩
          have RX := hid_of (And.intro r4 (HM.out.trans _ _ _ I.out.2.2 f4))
          clear r4 f4 HC0
          have HLE : Hid (Least lt m n i j2) := ⟨by omega, hc2, by have := HJ1.out; have := HJ2.out; unfold par; omega, fun k hk hkn hkp => by rcases kid.out k hk hkn hkp with rfl | rfl; exact HO.out.asymm HLT.out; exact HO.out.irr _⟩
          have hjn : j2 < n := HLE.out.2.1
          have HC := hid_of (HLS.out w4 RX.out.1 j2 i hjn hin)
          cases hd2 : decide (lt (pl m j2) (pl m i)) with
          | false =>
            have hnl : ¬ lt (pl m j2) (pl m i) := of_decide_eq_false hd2
            have HE := hid_of (I.out.2.1.fin HO.out (fun k hk hkn hkp => HO.out.le_trans hnl (HLE.out.2.2.2 k hk hkn hkp)))
            rw [hd2] at HC
            clear hnl hd2
            go_wp2_with fail
            refine HC.out.mono ?_
            rintro e w5 ⟨rfl, r5, f5⟩
            have R5 := hid_of (And.intro r5 (HM.out.trans _ _ _ RX.out.2 f5))
            clear r5 f5
            go_wp2_with fail
            go_ret
            exact ⟨decide (i0 < i), m, rfl, R5.out.1, HE.out, R5.out.2⟩
          | true =>
            obtain ⟨g', rfl⟩ : ∃ g', gk = g' + 1 := ⟨gk - 1, by omega⟩
            have HS := hid_of (I.out.2.1.step HO.out hml hin hi0 HLE.out (of_decide_eq_true hd2))
            have hij : i < j2 := by have := par_lt HLE.out.1; have := HLE.out.2.2.1; omega
            rw [hd2] at HC
            clear hd2
            go_wp2_with fail
            refine HC.out.mono ?_
            rintro e w5 ⟨rfl, r5, f5⟩
            have R5 := hid_of (And.intro r5 (HM.out.trans _ _ _ RX.out.2 f5))
            have HC3 := hid_of (HSW.out w5 r5 i j2 hin hjn)
            clear r5 f5 HC
            go_wp2_with fail
            refine HC3.out.mono ?_
            rintro e w6 ⟨rfl, r6, f6⟩
            have I6 := hid_of (show R w6 (swp m i j2) ∧ Mid lt n i0 j2 l (swp m i j2) ∧ F w w6 from ⟨r6, HS.out, HM.out.trans _ _ _ R5.out.2 f6⟩)
            clear r6 f6 HC3 HS R5 I RX
            go_wp2_with fail
            go_roundg g'
            case measure => omega
            case rel => exact ⟨j2, swp m i j2, by omega, hjn, by omega, rfl, I6⟩
        | false =>
          have hl1 : ¬ lt (pl m j2) (pl m j1) := of_decide_eq_false hd1
          rw [hd1] at HC0
          have HLT := hid_of hl1
          clear hl1 hd1
          go_wp2_with fail
          refine HC0.out.mono ?_
          rintro e w4 ⟨rfl, r4, f4⟩
          have RX := hid_of (And.intro r4 (HM.out.trans _ _ _ I.out.2.2 f4))
          clear r4 f4 HC0
          have HLE : Hid (Least lt m n i j1) := ⟨by omega, hj1n, by have := HJ1.out; unfold par; omega, fun k hk hkn hkp => by rcases kid.out k hk hkn hkp with rfl | rfl; exact HO.out.irr _; exact HLT.out⟩
          have hjn : j1 < n := HLE.out.2.1
          have HC := hid_of (HLS.out w4 RX.out.1 j1 i hjn hin)
          cases hd2 : decide (lt (pl m j1) (pl m i)) with
          | false =>
            have hnl : ¬ lt (pl m j1) (pl m i) := of_decide_eq_false hd2
            have HE := hid_of (I.out.2.1.fin HO.out (fun k hk hkn hkp => HO.out.le_trans hnl (HLE.out.2.2.2 k hk hkn hkp)))
            rw [hd2] at HC
            clear hnl hd2
            go_wp2_with fail
            refine HC.out.mono ?_
            rintro e w5 ⟨rfl, r5, f5⟩
            have R5 := hid_of (And.intro r5 (HM.out.trans _ _ _ RX.out.2 f5))
            clear r5 f5
            go_wp2_with fail
            go_ret
            exact ⟨decide (i0 < i), m, rfl, R5.out.1, HE.out, R5.out.2⟩
          | true =>
            obtain ⟨g', rfl⟩ : ∃ g', gk = g' + 1 := ⟨gk - 1, by omega⟩
            have HS := hid_of (I.out.2.1.step HO.out hml hin hi0 HLE.out (of_decide_eq_true hd2))
            have hij : i < j1 := by have := par_lt HLE.out.1; have := HLE.out.2.2.1; omega
            rw [hd2] at HC
            clear hd2
            go_wp2_with fail
            refine HC.out.mono ?_
            rintro e w5 ⟨rfl, r5, f5⟩
            have R5 := hid_of (And.intro r5 (HM.out.trans _ _ _ RX.out.2 f5))
            have HC3 := hid_of (HSW.out w5 r5 i j1 hin hjn)
            clear r5 f5 HC
            go_wp2_with fail
            refine HC3.out.mono ?_
            rintro e w6 ⟨rfl, r6, f6⟩
            have I6 := hid_of (show R w6 (swp m i j1) ∧ Mid lt n i0 j1 l (swp m i j1) ∧ F w w6 from ⟨r6, HS.out, HM.out.trans _ _ _ R5.out.2 f6⟩)
            clear r6 f6 HC3 HS R5 I RX
            go_wp2_with fail
            go_roundg g'
            case measure => omega
            case rel => exact ⟨j1, swp m i j1, by omega, hjn, by omega, rfl, I6⟩
      · have g2 : ¬ (j2 : Int) < (n : Int) := by omega
        have RX := hid_of (And.intro I.out.1 I.out.2.2)
        have HLE : Hid (Least lt m n i j1) := ⟨by omega, hj1n, by have := HJ1.out; unfold par; omega, fun k hk hkn hkp => by rcases kid.out k hk hkn hkp with rfl | rfl; exact HO.out.irr _; exact absurd hkn hc2⟩
        have hjn : j1 < n := HLE.out.2.1
        have HC := hid_of (HLS.out wr RX.out.1 j1 i hjn hin)
        cases hd2 : decide (lt (pl m j1) (pl m i)) with
        | false =>
          have hnl : ¬ lt (pl m j1) (pl m i) := of_decide_eq_false hd2
          have HE := hid_of (I.out.2.1.fin HO.out (fun k hk hkn hkp => HO.out.le_trans hnl (HLE.out.2.2.2 k hk hkn hkp)))
          rw [hd2] at HC
          clear hnl hd2
          go_wp2_with fail
          refine HC.out.mono ?_
          rintro e w5 ⟨rfl, r5, f5⟩
          have R5 := hid_of (And.intro r5 (HM.out.trans _ _ _ RX.out.2 f5))
          clear r5 f5
          go_wp2_with fail
          go_ret
          exact ⟨decide (i0 < i), m, rfl, R5.out.1, HE.out, R5.out.2⟩
        | true =>
          obtain ⟨g', rfl⟩ : ∃ g', gk = g' + 1 := ⟨gk - 1, by omega⟩
          have HS := hid_of (I.out.2.1.step HO.out hml hin hi0 HLE.out (of_decide_eq_true hd2))
          have hij : i < j1 := by have := par_lt HLE.out.1; have := HLE.out.2.2.1; omega
          rw [hd2] at HC
          clear hd2
          go_wp2_with fail
          refine HC.out.mono ?_
          rintro e w5 ⟨rfl, r5, f5⟩
          have R5 := hid_of (And.intro r5 (HM.out.trans _ _ _ RX.out.2 f5))
          have HC3 := hid_of (HSW.out w5 r5 i j1 hin hjn)
          clear r5 f5 HC
          go_wp2_with fail
          refine HC3.out.mono ?_
          rintro e w6 ⟨rfl, r6, f6⟩
          have I6 := hid_of (show R w6 (swp m i j1) ∧ Mid lt n i0 j1 l (swp m i j1) ∧ F w w6 from ⟨r6, HS.out, HM.out.trans _ _ _ R5.out.2 f6⟩)
          clear r6 f6 HC3 HS R5 I RX
          go_wp2_with fail
          go_roundg g'
          case measure => omega
          case rel => exact ⟨j1, swp m i j1, by omega, hjn, by omega, rfl, I6⟩
end Go.Proofs.YtcgdnpcegcmboaaGreatDoor.Heap
end
