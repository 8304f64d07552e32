/- HSET, HMSET, HDEL: commands that change a hash. HDEL. HINCRBY. HINCRBY: the command. -/
import Derived.Test.YtcgdnpcegcmboaaGreatDoorHGetM
import Derived.Deep.RegionHeld3
import Derived.Test.YtcgdnpcegcmboaaGreatDoorRPrintM
section
namespace Go.Proofs.YtcgdnpcegcmboaaGreatDoor.HCw
open Go.RowKit Go.Maps
open Go.Proofs.YtcgdnpcegcmboaaGreatDoor.SpaceMath (wout withL lkp keys toD)
open Go.Proofs.YtcgdnpcegcmboaaGreatDoor.ValueMath (Vl chk small)
open Go.Proofs.YtcgdnpcegcmboaaGreatDoor.Base (mk mk_list mk_size Gr hid_of SL)
open Go.Proofs.YtcgdnpcegcmboaaGreatDoor.Turn
open Go.Proofs.YtcgdnpcegcmboaaGreatDoor.Vals
open Go.Proofs.YtcgdnpcegcmboaaGreatDoor.Check0 (Wel)
open Go.Proofs.YtcgdnpcegcmboaaGreatDoor.SBase
open Go.Proofs.YtcgdnpcegcmboaaGreatDoor.SFind
open Go.Proofs.YtcgdnpcegcmboaaGreatDoor.SPut (vO)
open Go.Proofs.YtcgdnpcegcmboaaGreatDoor.QBase
open Go.Proofs.YtcgdnpcegcmboaaGreatDoor.HCmd
open Go.Proofs.YtcgdnpcegcmboaaGreatDoor.DiBase (DK)
open Go.Proofs.YtcgdnpcegcmboaaGreatDoor.Parse (Has)
set_option linter.unusedVariables false
set_option linter.unusedSimpArgs false
open Go.Proofs.YtcgdnpcegcmboaaGreatDoor.HFld
open Go.Proofs.YtcgdnpcegcmboaaGreatDoor.HChg (Lay change_ok)
open Go.Proofs.YtcgdnpcegcmboaaGreatDoor.HSet
open Go.Proofs.YtcgdnpcegcmboaaGreatDoor.HGet (word_at)
set_option maxHeartbeats 4000000 in
set_option maxRecDepth 100000 in
theorem pairs_call (a : Option Addr) (n c : Nat) (hn : n % 2 = 0) (hl : n < 9223372036854775808) (w : World) :
    Calls Tryz.prog 107 #[.slice a n c] w fun e w' => e = .returned (.bool true) ∧ w' = w := by
  have e1 : ((n : Int) % 2) = 0 := by omega
  have e2 : (((n : Int) % 2) == 0) = true := by rw [e1]; rfl
  have e5 : (0 : Int) ≤ (n : Int) := by omega
  go_enter Tryz.func107, Tryz.ntmps107
  go_wp2_with fail
  go_ret
  exact ⟨by simp [e1], rfl⟩
section
variable {F X : Nat → Prop} {b : Nat} {w : World} {S : Sp}
set_option maxHeartbeats 4000000 in
set_option maxRecDepth 100000 in
theorem set_call (h : SP F X b w S) (k : Bs) (hk : k.length ≤ 281474976710656) (now : Int) {G : Nat → Prop} {a : Option Addr} {n c : Nat} {ps : List Base.El} (hw : SL G w (.slice a n c) ps) (hev : ps.length % 2 = 0) (hb : ∀ t ∈ ps, t.length ≤ 140737488355328) {L : FL} {S' : Sp} (hL : flds S now k L) (fit : Fit L) (hn : L.length + ps.length < 8796093022208) (hn' : (layF L ps).1.length < 8796093022208) (hlay : Lay S now k L (layF L ps).1 S') :
    Calls Tryz.prog 65 #[cV b now (mk k) a n c] w fun e w' => e = .returned (rp 3 ⟨#[]⟩ ((layF L ps).2 : Int)) ∧ Dn F X b w w' S' := by
  obtain rfl : n = ps.length := (sl_get hw).1
  obtain ⟨W, hW⟩ : ∃ W, W = (w.alloc (cO b now (mk k) a ps.length c)).alloc (rO 0 ⟨#[]⟩ 0 (.slice none 0 0)) := ⟨_, rfl⟩
  obtain ⟨bW, x0, x1, sW⟩ := two_boxes w (cO b now (mk k) a ps.length c) (rO 0 ⟨#[]⟩ 0 (.slice none 0 0)) ⟨_, _, rfl⟩
  rw [← hW] at bW x0 x1 sW
  have HP := hid_of fun (V : World) => pairs_call a ps.length c (by omega) (by omega) V
  have H1 := hid_of (change_ok (sp_wide h bW) k hk now a ps.length c hL fit hn' hlay 115 (.pointer (some ⟨w.heap.size, 0, none⟩)) (fun args w => by kernel_rfl) 3 ⟨#[]⟩ ((layF L ps).2 : Int)
    (fun B V d m hB1 hB2 hV hd hdB hmB => set1_call b now (mk k) B V w.heap.size d m L ((hV.block _ (lt_of x0)).trans x0) ((hw.below bW).below hV) hev hb hn hB2 hd hmB))
  have HH := hid_of h
  have HB := hid_of bW
  have HX1 := hid_of x1
  have HSW := hid_of sW
  have HW := hid_of hW
  obtain ⟨⟨c0, c1, c2, c3⟩, -⟩ := box4 x0
  have c3a := c3
  rw [hW] at c3a
  have t1 : HCmd.Tmp w W (w.heap.size + 1) := ⟨by omega, by rw [HSW.out]; omega⟩
  clear hW bW x0 x1 sW h hL fit hn' hlay hw hb hev hn
  generalize mk k = K at *
  go_enter Tryz.func65, Tryz.ntmps65
  go_wp2_with fail
  rw [← HW.out]
  go_wp2_with fail
  refine (HP.out W).mono ?_
  rintro e w0 ⟨rfl, hw0⟩
  have hw0 := hw0.symm
  subst hw0
  go_wp2_with fail
  refine H1.out.mono ?_
  rintro e w3 ⟨rfl, d3⟩
  have D3 := hid_of d3
  have z3 := (dn_block HH.out HB.out d3 t1).trans HX1.out
  obtain ⟨⟨v0, v1, v2, v3⟩, fv⟩ := box4 z3
  have fv0 := fv 0; have fv1 := fv 1; have fv2 := fv 2; have fv3 := fv 3
  have hz := fin4_at z3 (.int .i64 3) (.string ⟨#[]⟩) (.int .i64 ((layF L ps).2 : Int)) (.slice none 0 0)
  have hdn := dn_tmp HH.out HB.out D3.out (ev_fin4 t1 (.int .i64 3) (.string ⟨#[]⟩) (.int .i64 ((layF L ps).2 : Int)) (.slice none 0 0))
  unfold fin4 at hz hdn
  have HDN := hid_of hdn
  clear fv z3 d3 H1 hdn
  go_wp2_with fail
  obtain ⟨⟨g0, g1, g2, g3⟩, -⟩ := box4 hz
  exact bodyPost_ret (v := rp 3 ⟨#[]⟩ ((layF L ps).2 : Int)) (by simp [results, Tryz.results65, go_sem, g0, g1, g2, g3]) rfl ⟨rfl, HDN.out⟩
set_option maxHeartbeats 4000000 in
set_option maxRecDepth 100000 in
theorem setSeveral_call (h : SP F X b w S) (k : Bs) (hk : k.length ≤ 281474976710656) (now : Int) {G : Nat → Prop} {a : Option Addr} {n c : Nat} {ps : List Base.El} (hw : SL G w (.slice a n c) ps) (hev : ps.length % 2 = 0) (hb : ∀ t ∈ ps, t.length ≤ 140737488355328) {L : FL} {S' : Sp} (hL : flds S now k L) (fit : Fit L) (hn : L.length + ps.length < 8796093022208) (hn' : (layF L ps).1.length < 8796093022208) (hlay : Lay S now k L (layF L ps).1 S') :
    Calls Tryz.prog 63 #[cV b now (mk k) a n c] w fun e w' => e = .returned (rp 1 okB 0) ∧ Dn F X b w w' S' := by
  obtain rfl : n = ps.length := (sl_get hw).1
  obtain ⟨W, hW⟩ : ∃ W, W = (w.alloc (cO b now (mk k) a ps.length c)).alloc (rO 0 ⟨#[]⟩ 0 (.slice none 0 0)) := ⟨_, rfl⟩
  obtain ⟨bW, x0, x1, sW⟩ := two_boxes w (cO b now (mk k) a ps.length c) (rO 0 ⟨#[]⟩ 0 (.slice none 0 0)) ⟨_, _, rfl⟩
  rw [← hW] at bW x0 x1 sW
  have HP := hid_of fun (V : World) => pairs_call a ps.length c (by omega) (by omega) V
  have H1 := hid_of (change_ok (sp_wide h bW) k hk now a ps.length c hL fit hn' hlay 108 (.pointer (some ⟨w.heap.size, 0, none⟩)) (fun args w => by kernel_rfl) 1 okB 0
    (fun B V d m hB1 hB2 hV hd hdB hmB => setSeveral1_call b now (mk k) B V w.heap.size d m L ((hV.block _ (lt_of x0)).trans x0) ((hw.below bW).below hV) hev hb hn hB2 hd hmB))
  have HH := hid_of h
  have HB := hid_of bW
  have HX1 := hid_of x1
  have HSW := hid_of sW
  have HW := hid_of hW
  obtain ⟨⟨c0, c1, c2, c3⟩, -⟩ := box4 x0
  have c3a := c3
  rw [hW] at c3a
  have t1 : HCmd.Tmp w W (w.heap.size + 1) := ⟨by omega, by rw [HSW.out]; omega⟩
  clear hW bW x0 x1 sW h hL fit hn' hlay hw hb hev hn
  generalize mk k = K at *
  go_enter Tryz.func63, Tryz.ntmps63
  go_wp2_with fail
  rw [← HW.out]
  go_wp2_with fail
  refine (HP.out W).mono ?_
  rintro e w0 ⟨rfl, hw0⟩
  have hw0 := hw0.symm
  subst hw0
  go_wp2_with fail
  refine H1.out.mono ?_
  rintro e w3 ⟨rfl, d3⟩
  have D3 := hid_of d3
  have z3 := (dn_block HH.out HB.out d3 t1).trans HX1.out
  obtain ⟨⟨v0, v1, v2, v3⟩, fv⟩ := box4 z3
  have fv0 := fv 0; have fv1 := fv 1; have fv2 := fv 2; have fv3 := fv 3
  have hz := fin4_at z3 (.int .i64 1) (.string okB) (.int .i64 0) (.slice none 0 0)
  have hdn := dn_tmp HH.out HB.out D3.out (ev_fin4 t1 (.int .i64 1) (.string okB) (.int .i64 0) (.slice none 0 0))
  unfold fin4 at hz hdn
  have HDN := hid_of hdn
  clear fv z3 d3 H1 hdn
  go_wp2_with fail
  obtain ⟨⟨g0, g1, g2, g3⟩, -⟩ := box4 hz
  exact bodyPost_ret (v := rp 1 okB 0) (by simp [results, Tryz.results63, go_sem, g0, g1, g2, g3]) rfl ⟨rfl, HDN.out⟩
end
end Go.Proofs.YtcgdnpcegcmboaaGreatDoor.HCw
end
section
namespace Go.Proofs.YtcgdnpcegcmboaaGreatDoor.HDrop
open Go.RowKit Go.Maps
open Go.Proofs.YtcgdnpcegcmboaaGreatDoor.SpaceMath (wout withL lkp keys toD)
open Go.Proofs.YtcgdnpcegcmboaaGreatDoor.ValueMath (Vl chk small)
open Go.Proofs.YtcgdnpcegcmboaaGreatDoor.Base (mk mk_list mk_size Gr hid_of SL)
open Go.Proofs.YtcgdnpcegcmboaaGreatDoor.Turn
open Go.Proofs.YtcgdnpcegcmboaaGreatDoor.Vals
open Go.Proofs.YtcgdnpcegcmboaaGreatDoor.Check0 (Wel)
open Go.Proofs.YtcgdnpcegcmboaaGreatDoor.SBase
open Go.Proofs.YtcgdnpcegcmboaaGreatDoor.SFind
open Go.Proofs.YtcgdnpcegcmboaaGreatDoor.SPut (vO)
open Go.Proofs.YtcgdnpcegcmboaaGreatDoor.QBase
open Go.Proofs.YtcgdnpcegcmboaaGreatDoor.HCmd
open Go.Proofs.YtcgdnpcegcmboaaGreatDoor.DiBase (DK)
open Go.Proofs.YtcgdnpcegcmboaaGreatDoor.Parse (Has)
set_option linter.unusedVariables false
set_option linter.unusedSimpArgs false
open Go.Proofs.YtcgdnpcegcmboaaGreatDoor.HFld
open Go.Proofs.YtcgdnpcegcmboaaGreatDoor.HChg (Lay change_ok)
open Go.Proofs.YtcgdnpcegcmboaaGreatDoor.HSet (dk_fin mv_below bsmk)
def dropF (L : FL) : List Bs → FL × Nat
  | f :: r => ((dropF (DiDictMath.wout L f) r).1, (dropF (DiDictMath.wout L f) r).2 + (if DiDictMath.ok L f then 1 else 0))
  | [] => (L, 0)
theorem dropF_drop {ps : List Bs} {i : Nat} (hi : i < ps.length) (L : FL) : dropF L (ps.drop i) = ((dropF (DiDictMath.wout L ps[i]) (ps.drop (i + 1))).1, (dropF (DiDictMath.wout L ps[i]) (ps.drop (i + 1))).2 + (if DiDictMath.ok L ps[i] then 1 else 0)) := by
  rw [List.drop_eq_getElem_cons hi]
  rfl
theorem dropF_le : ∀ (ps : List Bs) (L : FL), (dropF L ps).2 ≤ ps.length
  | [], _ => Nat.le_refl _
  | f :: r, L => by
    have := dropF_le r (DiDictMath.wout L f)
    show (dropF (DiDictMath.wout L f) r).2 + _ ≤ r.length + 1
    split <;> omega
theorem dropF_len : ∀ (ps : List Bs) (L : FL), (dropF L ps).1.length ≤ L.length
  | [], _ => Nat.le_refl _
  | f :: r, L => Nat.le_trans (dropF_len r (DiDictMath.wout L f)) (DiDictMath.wout_len L f)
set_option maxHeartbeats 8000000 in
set_option maxRecDepth 100000 in
theorem drop1_call (b : Nat) (now : Int) (K : ByteArray) {G : Nat → Prop} {a : Option Addr} {n c : Nat} {ps : List Base.El} (B : Nat) (V : World) (q d m : Nat) (L : FL) (hq : V.heap[q]? = some (cO b now K a n c)) (hw : SL G V (.slice a n c) ps) (hb : ∀ t ∈ ps, t.length ≤ 140737488355328) (hn : ps.length < 8796093022208) (hB : B ≤ V.heap.size) (hd : DK d m L V) (hm : B ≤ m) :
    Calls Tryz.prog 87 #[ptr d, .pointer (some ⟨q, 0, none⟩)] V fun e w' => e = .returned (rp 3 ⟨#[]⟩ ((dropF L ps).2 : Int)) ∧ DK d m (dropF L ps).1 w' ∧ Below B V w' := by
  obtain ⟨W, hW⟩ : ∃ W, W = V.alloc (rO 0 ⟨#[]⟩ 0 (.slice none 0 0)) := ⟨_, rfl⟩
  have bW : Below V.heap.size V W := by rw [hW]; exact alb _ _
  have x0 : W.heap[V.heap.size]? = some (rO 0 ⟨#[]⟩ 0 (.slice none 0 0)) := by rw [hW]; exact heap_alloc_new V _
  have HX := hid_of x0
  have xq := (bW.block _ (lt_of hq)).trans hq
  obtain ⟨⟨q0, q1, q2, q3⟩, -⟩ := box4 xq
  have hwW := hw.below bW
  obtain ⟨rfl, hcs⟩ := sl_get hwW
  have q3a := q3
  rw [hW] at q3a
  have HC := hid_of hcs
  have HBb := hid_of hb
  have HD := hid_of (hd.below bW)
  have H2 := hid_of (@count_call)
  have HB := hid_of bW
  have HBB := hid_of hB
  have HW := hid_of hW
  have HLE := hid_of (dropF_le ps L)
  clear hW bW hq hw hb hd xq x0 hB hwW hcs
  go_enter Tryz.func87, Tryz.ntmps87
  go_wp2_with fail
  rw [← HW.out]
  go_wp2_with fail
  go_loopg [4, 10] ps.length (fun g s4 s10 wx => ∃ (i fr : Nat) (Lc : FL), i ≤ ps.length ∧ ps.length ≤ i + g ∧ s4 = .int .i64 (fr : Int) ∧ s10 = .int .i64 (i : Int) ∧ Hid (DK d m Lc wx) ∧ Hid (DiBase.Mv m W wx) ∧ Hid ((dropF Lc (ps.drop i)).1 = (dropF L ps).1 ∧ (dropF Lc (ps.drop i)).2 + fr = (dropF L ps).2))
  case atStart => exact ⟨0, 0, L, by omega, by omega, rfl, rfl, HD, hid_of (DiBase.Mv.of_below (Below.refl _ _) (DiBase.owns_map HD.out.map)), hid_of ⟨rfl, rfl⟩⟩
  case round =>
    obtain ⟨i, fr, Lc, hi, hg, rfl, rfl, HDx, HBx, HLx⟩ := hrel
    by_cases hlt : i < ps.length
    · obtain ⟨g', rfl⟩ : ∃ g', gk = g' + 1 := ⟨gk - 1, by omega⟩
      obtain ⟨ga, oa, rfl, hc0⟩ := HC.out i hlt
      have p0 : wr.cell? ⟨ga, oa + i, none⟩ = some (.string (mk ps[i])) := HBx.out.cell hc0
      have g1 : (i : Int) < (ps.length : Int) := by omega
      have w2 : IntKind.i64.wrap ((i : Int) + 1) = (i : Int) + 1 := IntWalk.i64_in _ (by omega)
      have hfr : fr ≤ ps.length := by have := HLx.out.2; have := HLE.out; omega
      have w3 : IntKind.i64.wrap ((fr : Int) + 1) = (fr : Int) + 1 := IntWalk.i64_in _ (by omega)
      have HS := hid_of (DiSmall.drop_call d m Lc (mk ps[i]) wr HDx.out (by rw [mk_size]; exact HBb.out _ (List.getElem_mem hlt)))
      rw [bsmk] at HS
      have HL := hid_of (dropF_drop hlt Lc)
      clear hc0
      generalize ps[i] = f at *
      generalize mk f = FF at *
      cases hok : DiDictMath.ok Lc f with
      | true =>
        rw [hok] at HS HL
        go_wp2_with fail
        refine HS.out.mono ?_
        rintro e u ⟨rfl, hd2, mv⟩
        have HD2 := hid_of hd2
        have HM := hid_of mv
        clear hd2 mv
        go_wp2_with fail
        go_roundg g'
        case measure => omega
        case rel => exact ⟨i + 1, fr + 1, _, by omega, by omega, by rw [show ((fr + 1 : Nat) : Int) = (fr : Int) + 1 by omega], by rw [show ((i + 1 : Nat) : Int) = (i : Int) + 1 by omega], HD2, hid_of (HBx.out.trans HM.out), hid_of (by have h := HLx.out; rw [HL.out] at h; refine ⟨by simpa using h.1, ?_⟩; have := h.2; simp at this; omega)⟩
      | false =>
        rw [hok] at HS HL
        go_wp2_with fail
        refine HS.out.mono ?_
        rintro e u ⟨rfl, hd2, mv⟩
        have HD2 := hid_of hd2
        have HM := hid_of mv
        clear hd2 mv
        go_wp2_with fail
        go_roundg g'
        case measure => omega
        case rel => exact ⟨i + 1, fr, _, by omega, by omega, rfl, by rw [show ((i + 1 : Nat) : Int) = (i : Int) + 1 by omega], HD2, hid_of (HBx.out.trans HM.out), hid_of (by have h := HLx.out; rw [HL.out] at h; simpa using h)⟩
    · obtain rfl : i = ps.length := by omega
      have h1 := HLx.out
      rw [List.drop_length] at h1
      have e1 : Lc = (dropF L ps).1 := h1.1
      have e2 : fr = (dropF L ps).2 := by have := h1.2; have h0 : (dropF Lc []).2 = 0 := rfl; omega
      subst e2
      have HDf := hid_of (show DK d m (dropF L ps).1 wr by rw [← e1]; exact HDx.out)
      have X1 := hid_of (HBx.out.blk HX.out)
      have B1 := hid_of ((HB.out.mono HBB.out).trans (mv_below HBx.out hm (Nat.le_trans HBB.out HB.out.size)))
      have hle1 : V.heap.size ≤ wr.heap.size := Nat.le_of_lt (lt_of X1.out)
      go_wp2_with fail
      refine (H2.out _ wr).mono ?_
      rintro e w2 ⟨rfl, b2⟩
      have HD2 := HDf.out.below b2
      have X2 := (b2.block _ (lt_of X1.out)).trans X1.out
      have B2 := hid_of (B1.out.trans (b2.mono (Nat.le_trans HBB.out hle1)))
      obtain ⟨⟨v0, v1, v2, v3⟩, fv⟩ := box4 X2
      have fv0 := fv 0; have fv1 := fv 1; have fv2 := fv 2; have fv3 := fv 3
      have hz := fin4_at X2 (.int .i64 3) (.string ⟨#[]⟩) (.int .i64 ((dropF L ps).2 : Int)) (.slice none 0 0)
      have hbz := fin4_b (y0 := .int .i64 3) (y1 := .string ⟨#[]⟩) (y2 := .int .i64 ((dropF L ps).2 : Int)) (y3 := .slice none 0 0) B2.out HBB.out
      have hdz := dk_fin HD2 X2 (.int .i64 3) (.string ⟨#[]⟩) (.int .i64 ((dropF L ps).2 : Int)) (.slice none 0 0)
      unfold fin4 at hz hbz hdz
      have HZ := hid_of (And.intro hbz hdz)
      clear fv b2 HD2 X2 hbz hdz
      go_wp2_with fail
      obtain ⟨⟨g0, g1, g2, g3⟩, -⟩ := box4 hz
      exact bodyPost_ret (v := rp 3 ⟨#[]⟩ ((dropF L ps).2 : Int)) (by simp [results, Tryz.results87, go_sem, g0, g1, g2, g3]) rfl ⟨rfl, HZ.out.2, HZ.out.1⟩
section
variable {F X : Nat → Prop} {b : Nat} {w : World} {S : Sp}
set_option maxHeartbeats 4000000 in
set_option maxRecDepth 100000 in
theorem drop_call (h : SP F X b w S) (k : Bs) (hk : k.length ≤ 281474976710656) (now : Int) {G : Nat → Prop} {a : Option Addr} {n c : Nat} {ps : List Base.El} (hw : SL G w (.slice a n c) ps) (hb : ∀ t ∈ ps, t.length ≤ 140737488355328) {L : FL} {S' : Sp} (hL : flds S now k L) (fit : Fit L) (hn : L.length + ps.length < 8796093022208) (hn' : (dropF L ps).1.length < 8796093022208) (hlay : Lay S now k L (dropF L ps).1 S') :
    Calls Tryz.prog 55 #[cV b now (mk k) a n c] w fun e w' => e = .returned (rp 3 ⟨#[]⟩ ((dropF L ps).2 : Int)) ∧ Dn F X b w w' S' := by
  obtain rfl : n = ps.length := (sl_get hw).1
  obtain ⟨W, hW⟩ : ∃ W, W = (w.alloc (cO b now (mk k) a ps.length c)).alloc (rO 0 ⟨#[]⟩ 0 (.slice none 0 0)) := ⟨_, rfl⟩
  obtain ⟨bW, x0, x1, sW⟩ := two_boxes w (cO b now (mk k) a ps.length c) (rO 0 ⟨#[]⟩ 0 (.slice none 0 0)) ⟨_, _, rfl⟩
  rw [← hW] at bW x0 x1 sW
  have H1 := hid_of (change_ok (sp_wide h bW) k hk now a ps.length c hL fit hn' hlay 87 (.pointer (some ⟨w.heap.size, 0, none⟩)) (fun args w => by kernel_rfl) 3 ⟨#[]⟩ ((dropF L ps).2 : Int)
    (fun B V d m hB1 hB2 hV hd hdB hmB => drop1_call b now (mk k) B V w.heap.size d m L ((hV.block _ (lt_of x0)).trans x0) ((hw.below bW).below hV) hb (by omega) hB2 hd hmB))
  have HH := hid_of h
  have HB := hid_of bW
  have HX1 := hid_of x1
  have HSW := hid_of sW
  have HW := hid_of hW
  obtain ⟨⟨c0, c1, c2, c3⟩, -⟩ := box4 x0
  have c3a := c3
  rw [hW] at c3a
  have t1 : HCmd.Tmp w W (w.heap.size + 1) := ⟨by omega, by rw [HSW.out]; omega⟩
  clear hW bW x0 x1 sW h hL fit hn' hlay hw hb hn
  generalize mk k = K at *
  go_enter Tryz.func55, Tryz.ntmps55
  go_wp2_with fail
  rw [← HW.out]
  go_wp2_with fail
  refine H1.out.mono ?_
  rintro e w3 ⟨rfl, d3⟩
  have D3 := hid_of d3
  have z3 := (dn_block HH.out HB.out d3 t1).trans HX1.out
  obtain ⟨⟨v0, v1, v2, v3⟩, fv⟩ := box4 z3
  have fv0 := fv 0; have fv1 := fv 1; have fv2 := fv 2; have fv3 := fv 3
  have hz := fin4_at z3 (.int .i64 3) (.string ⟨#[]⟩) (.int .i64 ((dropF L ps).2 : Int)) (.slice none 0 0)
  have hdn := dn_tmp HH.out HB.out D3.out (ev_fin4 t1 (.int .i64 3) (.string ⟨#[]⟩) (.int .i64 ((dropF L ps).2 : Int)) (.slice none 0 0))
  unfold fin4 at hz hdn
  have HDN := hid_of hdn
  clear fv z3 d3 H1 hdn
  go_wp2_with fail
  obtain ⟨⟨g0, g1, g2, g3⟩, -⟩ := box4 hz
  exact bodyPost_ret (v := rp 3 ⟨#[]⟩ ((dropF L ps).2 : Int)) (by simp [results, Tryz.results55, go_sem, g0, g1, g2, g3]) rfl ⟨rfl, HDN.out⟩
end
end Go.Proofs.YtcgdnpcegcmboaaGreatDoor.HDrop
end
section
namespace Go.Proofs.YtcgdnpcegcmboaaGreatDoor.HInc
open Go.RowKit Go.Maps
open Go.Proofs.YtcgdnpcegcmboaaGreatDoor.SpaceMath (wout withL lkp keys toD)
open Go.Proofs.YtcgdnpcegcmboaaGreatDoor.ValueMath (Vl chk small)
open Go.Proofs.YtcgdnpcegcmboaaGreatDoor.Base (mk mk_list mk_size Gr hid_of SL)
open Go.Proofs.YtcgdnpcegcmboaaGreatDoor.Turn
open Go.Proofs.YtcgdnpcegcmboaaGreatDoor.Vals
open Go.Proofs.YtcgdnpcegcmboaaGreatDoor.Check0 (Wel)
open Go.Proofs.YtcgdnpcegcmboaaGreatDoor.SBase
open Go.Proofs.YtcgdnpcegcmboaaGreatDoor.SFind
open Go.Proofs.YtcgdnpcegcmboaaGreatDoor.SPut (vO)
open Go.Proofs.YtcgdnpcegcmboaaGreatDoor.QBase
open Go.Proofs.YtcgdnpcegcmboaaGreatDoor.HCmd
open Go.Proofs.YtcgdnpcegcmboaaGreatDoor.DiBase (DK)
open Go.Proofs.YtcgdnpcegcmboaaGreatDoor.Parse (Has)
set_option linter.unusedVariables false
set_option linter.unusedSimpArgs false
open Go.Proofs.YtcgdnpcegcmboaaGreatDoor.HFld
open Go.Proofs.YtcgdnpcegcmboaaGreatDoor.HChg (Lay change_ok change_ok2)
open Go.Proofs.YtcgdnpcegcmboaaGreatDoor.HSet (dk_fin mv_below bsmk)
open Go.Lib (itoa)
abbrev ovB : ByteArray := ⟨#[69, 82, 82, 32, 116, 104, 101, 32, 110, 117, 109, 98, 101, 114, 32, 119, 111, 117, 108, 100, 32, 108, 101, 97, 118, 101, 32, 105, 116, 115, 32, 114, 97, 110, 103, 101]⟩
abbrev iO (x : Int) : Obj := .cells #[.int .i64 x] 3
theorem num_some {T : SetMath.Bs} (hT : T.length ≤ 140737488351232) {v : Int} (h : prs T = some v) (w : World) (hh : Has w) : Calls Tryz.prog 99 #[.string (mk T)] w fun e w' => e = .returned (.tuple #[.int .i64 v, .string ⟨#[]⟩]) ∧ Below w.heap.size w w' := by
  have H := number_call (mk T) (by rw [mk_size]; exact hT) w hh
  rw [show (mk T).data.toList = T from rfl, h] at H
  exact H
theorem num_none {T : SetMath.Bs} (hT : T.length ≤ 140737488351232) (h : prs T = none) (w : World) (hh : Has w) : Calls Tryz.prog 99 #[.string (mk T)] w fun e w' => e = .returned (.tuple #[.int .i64 0, .string numB]) ∧ Below w.heap.size w w' := by
  have H := number_call (mk T) (by rw [mk_size]; exact hT) w hh
  rw [show (mk T).data.toList = T from rfl, h] at H
  exact H
set_option maxHeartbeats 8000000 in
set_option maxRecDepth 100000 in
theorem inc1_ok (b : Nat) (now : Int) (K : ByteArray) {G : Nat → Prop} {a : Option Addr} {n c : Nat} {ps : List Base.El} (B : Nat) (V : World) (q q2 d m : Nat) (L : FL) (x y : Int) (hq : V.heap[q]? = some (cO b now K a n c)) (hq2 : V.heap[q2]? = some (iO y)) (hw : SL G V (.slice a n c) ps) (h0 : 0 < ps.length) (hb : ps[0].length ≤ 140737488355328) (hy : DiNumMath.InI y) (hh : Has V) (fit : Fit L) (HPd : DiIncr.Pd L ps[0] x 0) (hf : DiNumMath.fitB (x + y) = true) (hB : B ≤ V.heap.size) (hd : DK d m L V) (hm : B ≤ m) :
    Calls Tryz.prog 101 #[ptr d, .pointer (some ⟨q, 0, none⟩), .pointer (some ⟨q2, 0, none⟩)] V fun e w' => e = .returned (rp 3 ⟨#[]⟩ (x + y)) ∧ DK d m (DiDictMath.withL L ps[0] (itoa (x + y))) w' ∧ Below B V w' := by
  obtain ⟨W, hW⟩ : ∃ W, W = V.alloc (rO 0 ⟨#[]⟩ 0 (.slice none 0 0)) := ⟨_, rfl⟩
  have bW : Below V.heap.size V W := by rw [hW]; exact alb _ _
  have x0 : W.heap[V.heap.size]? = some (rO 0 ⟨#[]⟩ 0 (.slice none 0 0)) := by rw [hW]; exact heap_alloc_new V _
  have HX := hid_of x0
  have bWd : Below V.heap.size V W.drew := bW.drew
  obtain ⟨⟨q0, q1, q2', q3⟩, -⟩ := box4 ((bWd.block _ (lt_of hq)).trans hq)
  have qy : W.drew.cell? ⟨q2, 0, none⟩ = some (.int .i64 y) := Lib.cell_of_heap ((bWd.block _ (lt_of hq2)).trans hq2) 0
  obtain ⟨rfl, hcs⟩ := sl_get (hw.below bWd)
  obtain ⟨ga, oa, rfl, hc0⟩ := hcs 0 h0
  rw [Nat.add_zero] at hc0
  have i0 : (0 : Int) < (ps.length : Int) := by omega
  have hfn := fit.n
  have hs := show DiIncr.incrS L ps[0] x 0 y = (DiDictMath.withL L ps[0] (itoa (x + y)), x + y, 0) from by unfold DiIncr.incrS; rw [if_pos rfl, if_pos hf]
  have H1 := hid_of (DiIncr.incr_call d m L (mk ps[0]) x 0 y W.drew (hd.below bWd) (by rw [mk_size]; exact hb) (fun p hp => by have := (fit.len p hp).2; omega) (by omega) hy (by rw [bsmk]; exact HPd) (hh.later bWd))
  rw [bsmk] at H1
  unfold DiIncr.IncE at H1
  rw [hs] at H1
  have H2 := hid_of (@count_call)
  have H3 := hid_of (@refused_call)
  have HB := hid_of bW
  have HBB := hid_of hB
  have HW := hid_of hW
  have HD0 := hid_of (hd.below bWd)
  clear hW bW hq hq2 hw hb hd x0 hB hcs bWd hy hh fit hfn HPd hs
  generalize mk ps[0] = N0 at *
  go_enter Tryz.func101, Tryz.ntmps101
  go_wp2_with fail
  rw [← HW.out]
  go_wp2_with fail
  go_region_with (first | (go_at_call 102; refine H1.out.mono ?_; rintro e w1 ⟨rfl, hd1, mv⟩; have HD1 := hid_of hd1; have HM := hid_of mv; clear hd1 mv))
  all_goals
    have X1 := hid_of (HM.out.blk (show W.drew.heap[V.heap.size]? = _ from HX.out))
    have B1 := hid_of ((HB.out.drew.mono HBB.out).trans (mv_below HM.out hm (Nat.le_trans HBB.out HB.out.size)))
    have hle1 : V.heap.size ≤ w1.heap.size := Nat.le_of_lt (lt_of X1.out)
    go_wp2_with fail
    refine (H2.out _ w1).mono ?_
    rintro e w2 ⟨rfl, b2⟩
    have HD2 := HD1.out.below b2
    have X2 := (b2.block _ (lt_of X1.out)).trans X1.out
    have B2 := hid_of (B1.out.trans (b2.mono (Nat.le_trans HBB.out hle1)))
    obtain ⟨⟨v0, v1, v2, v3⟩, fv⟩ := box4 X2
    have fv0 := fv 0; have fv1 := fv 1; have fv2 := fv 2; have fv3 := fv 3
    have hz := fin4_at X2 (.int .i64 3) (.string ⟨#[]⟩) (.int .i64 (x + y)) (.slice none 0 0)
    have hbz := fin4_b (y0 := .int .i64 3) (y1 := .string ⟨#[]⟩) (y2 := .int .i64 (x + y)) (y3 := .slice none 0 0) B2.out HBB.out
    have hdz := dk_fin HD2 X2 (.int .i64 3) (.string ⟨#[]⟩) (.int .i64 (x + y)) (.slice none 0 0)
    unfold fin4 at hz hbz hdz
    have HZ := hid_of (And.intro hbz hdz)
    clear fv b2 HD2 X2 hbz hdz
    go_wp2_with fail
    obtain ⟨⟨g0, g1, g2, g3⟩, -⟩ := box4 hz
    exact bodyPost_ret (v := rp 3 ⟨#[]⟩ (x + y)) (by simp [results, Tryz.results101, go_sem, g0, g1, g2, g3]) rfl ⟨rfl, HZ.out.2, HZ.out.1⟩
set_option maxHeartbeats 8000000 in
set_option maxRecDepth 100000 in
theorem inc1_over (b : Nat) (now : Int) (K : ByteArray) {G : Nat → Prop} {a : Option Addr} {n c : Nat} {ps : List Base.El} (B : Nat) (V : World) (q q2 d m : Nat) (L : FL) (x y : Int) (hq : V.heap[q]? = some (cO b now K a n c)) (hq2 : V.heap[q2]? = some (iO y)) (hw : SL G V (.slice a n c) ps) (h0 : 0 < ps.length) (hb : ps[0].length ≤ 140737488355328) (hy : DiNumMath.InI y) (hh : Has V) (fit : Fit L) (HPd : DiIncr.Pd L ps[0] x 0) (hf : DiNumMath.fitB (x + y) = false) (hB : B ≤ V.heap.size) (hd : DK d m L V) (hm : B ≤ m) :
    Calls Tryz.prog 101 #[ptr d, .pointer (some ⟨q, 0, none⟩), .pointer (some ⟨q2, 0, none⟩)] V fun e w' => e = .returned (rp 2 ovB 0) ∧ DK d m L w' ∧ Below B V w' := by
  obtain ⟨W, hW⟩ : ∃ W, W = V.alloc (rO 0 ⟨#[]⟩ 0 (.slice none 0 0)) := ⟨_, rfl⟩
  have bW : Below V.heap.size V W := by rw [hW]; exact alb _ _
  have x0 : W.heap[V.heap.size]? = some (rO 0 ⟨#[]⟩ 0 (.slice none 0 0)) := by rw [hW]; exact heap_alloc_new V _
  have HX := hid_of x0
  have bWd : Below V.heap.size V W.drew := bW.drew
  obtain ⟨⟨q0, q1, q2', q3⟩, -⟩ := box4 ((bWd.block _ (lt_of hq)).trans hq)
  have qy : W.drew.cell? ⟨q2, 0, none⟩ = some (.int .i64 y) := Lib.cell_of_heap ((bWd.block _ (lt_of hq2)).trans hq2) 0
  obtain ⟨rfl, hcs⟩ := sl_get (hw.below bWd)
  obtain ⟨ga, oa, rfl, hc0⟩ := hcs 0 h0
  rw [Nat.add_zero] at hc0
  have i0 : (0 : Int) < (ps.length : Int) := by omega
  have hfn := fit.n
  have hs := show DiIncr.incrS L ps[0] x 0 y = (L, 0, 11) from by unfold DiIncr.incrS; rw [if_pos rfl, hf]; rfl
  have H1 := hid_of (DiIncr.incr_call d m L (mk ps[0]) x 0 y W.drew (hd.below bWd) (by rw [mk_size]; exact hb) (fun p hp => by have := (fit.len p hp).2; omega) (by omega) hy (by rw [bsmk]; exact HPd) (hh.later bWd))
  rw [bsmk] at H1
  unfold DiIncr.IncE at H1
  rw [hs] at H1
  have H2 := hid_of (@count_call)
  have H3 := hid_of (@refused_call)
  have HB := hid_of bW
  have HBB := hid_of hB
  have HW := hid_of hW
  have HD0 := hid_of (hd.below bWd)
  clear hW bW hq hq2 hw hb hd x0 hB hcs bWd hy hh fit hfn HPd hs
  generalize mk ps[0] = N0 at *
  go_enter Tryz.func101, Tryz.ntmps101
  go_wp2_with fail
  rw [← HW.out]
  go_wp2_with fail
  go_region_with (first | (go_at_call 102; refine H1.out.mono ?_; rintro e w1 ⟨rfl, hd1, mv⟩; have HD1 := hid_of hd1; have HM := hid_of mv; clear hd1 mv))
  all_goals
    have X1 := hid_of (HM.out.blk (show W.drew.heap[V.heap.size]? = _ from HX.out))
    have B1 := hid_of ((HB.out.drew.mono HBB.out).trans (mv_below HM.out hm (Nat.le_trans HBB.out HB.out.size)))
    have hle1 : V.heap.size ≤ w1.heap.size := Nat.le_of_lt (lt_of X1.out)
    go_wp2_with fail
    refine (H3.out _ w1).mono ?_
    rintro e w2 ⟨rfl, b2⟩
    have HD2 := HD1.out.below b2
    have X2 := (b2.block _ (lt_of X1.out)).trans X1.out
    have B2 := hid_of (B1.out.trans (b2.mono (Nat.le_trans HBB.out hle1)))
    obtain ⟨⟨v0, v1, v2, v3⟩, fv⟩ := box4 X2
    have fv0 := fv 0; have fv1 := fv 1; have fv2 := fv 2; have fv3 := fv 3
    have hz := fin4_at X2 (.int .i64 2) (.string ovB) (.int .i64 0) (.slice none 0 0)
    have hbz := fin4_b (y0 := .int .i64 2) (y1 := .string ovB) (y2 := .int .i64 0) (y3 := .slice none 0 0) B2.out HBB.out
    have hdz := dk_fin HD2 X2 (.int .i64 2) (.string ovB) (.int .i64 0) (.slice none 0 0)
    unfold fin4 at hz hbz hdz
    have HZ := hid_of (And.intro hbz hdz)
    clear fv b2 HD2 X2 hbz hdz
    go_wp2_with fail
    obtain ⟨⟨g0, g1, g2, g3⟩, -⟩ := box4 hz
    exact bodyPost_ret (v := rp 2 ovB 0) (by simp [results, Tryz.results101, go_sem, g0, g1, g2, g3]) rfl ⟨rfl, HZ.out.2, HZ.out.1⟩
set_option maxHeartbeats 8000000 in
set_option maxRecDepth 100000 in
theorem inc1_no (b : Nat) (now : Int) (K : ByteArray) {G : Nat → Prop} {a : Option Addr} {n c : Nat} {ps : List Base.El} (B : Nat) (V : World) (q q2 d m : Nat) (L : FL) (x y : Int) (hq : V.heap[q]? = some (cO b now K a n c)) (hq2 : V.heap[q2]? = some (iO y)) (hw : SL G V (.slice a n c) ps) (h0 : 0 < ps.length) (hb : ps[0].length ≤ 140737488355328) (hy : DiNumMath.InI y) (hh : Has V) (fit : Fit L) (HPd : DiIncr.Pd L ps[0] x 10) (hB : B ≤ V.heap.size) (hd : DK d m L V) (hm : B ≤ m) :
    Calls Tryz.prog 101 #[ptr d, .pointer (some ⟨q, 0, none⟩), .pointer (some ⟨q2, 0, none⟩)] V fun e w' => e = .returned (rp 2 numB 0) ∧ DK d m L w' ∧ Below B V w' := by
  obtain ⟨W, hW⟩ : ∃ W, W = V.alloc (rO 0 ⟨#[]⟩ 0 (.slice none 0 0)) := ⟨_, rfl⟩
  have bW : Below V.heap.size V W := by rw [hW]; exact alb _ _
  have x0 : W.heap[V.heap.size]? = some (rO 0 ⟨#[]⟩ 0 (.slice none 0 0)) := by rw [hW]; exact heap_alloc_new V _
  have HX := hid_of x0
  have bWd : Below V.heap.size V W.drew := bW.drew
  obtain ⟨⟨q0, q1, q2', q3⟩, -⟩ := box4 ((bWd.block _ (lt_of hq)).trans hq)
  have qy : W.drew.cell? ⟨q2, 0, none⟩ = some (.int .i64 y) := Lib.cell_of_heap ((bWd.block _ (lt_of hq2)).trans hq2) 0
  obtain ⟨rfl, hcs⟩ := sl_get (hw.below bWd)
  obtain ⟨ga, oa, rfl, hc0⟩ := hcs 0 h0
  rw [Nat.add_zero] at hc0
  have i0 : (0 : Int) < (ps.length : Int) := by omega
  have hfn := fit.n
  have hs := show DiIncr.incrS L ps[0] x 10 y = (L, 0, 10) from by unfold DiIncr.incrS; rfl
  have H1 := hid_of (DiIncr.incr_call d m L (mk ps[0]) x 10 y W.drew (hd.below bWd) (by rw [mk_size]; exact hb) (fun p hp => by have := (fit.len p hp).2; omega) (by omega) hy (by rw [bsmk]; exact HPd) (hh.later bWd))
  rw [bsmk] at H1
  unfold DiIncr.IncE at H1
  rw [hs] at H1
  have H2 := hid_of (@count_call)
  have H3 := hid_of (@refused_call)
  have HB := hid_of bW
  have HBB := hid_of hB
  have HW := hid_of hW
  have HD0 := hid_of (hd.below bWd)
  clear hW bW hq hq2 hw hb hd x0 hB hcs bWd hy hh fit hfn HPd hs
  generalize mk ps[0] = N0 at *
  go_enter Tryz.func101, Tryz.ntmps101
  go_wp2_with fail
  rw [← HW.out]
  go_wp2_with fail
  go_region_with (first | (go_at_call 102; refine H1.out.mono ?_; rintro e w1 ⟨rfl, hd1, mv⟩; have HD1 := hid_of hd1; have HM := hid_of mv; clear hd1 mv))
  all_goals
    have X1 := hid_of (HM.out.blk (show W.drew.heap[V.heap.size]? = _ from HX.out))
    have B1 := hid_of ((HB.out.drew.mono HBB.out).trans (mv_below HM.out hm (Nat.le_trans HBB.out HB.out.size)))
    have hle1 : V.heap.size ≤ w1.heap.size := Nat.le_of_lt (lt_of X1.out)
    go_wp2_with fail
    refine (H3.out _ w1).mono ?_
    rintro e w2 ⟨rfl, b2⟩
    have HD2 := HD1.out.below b2
    have X2 := (b2.block _ (lt_of X1.out)).trans X1.out
    have B2 := hid_of (B1.out.trans (b2.mono (Nat.le_trans HBB.out hle1)))
    obtain ⟨⟨v0, v1, v2, v3⟩, fv⟩ := box4 X2
    have fv0 := fv 0; have fv1 := fv 1; have fv2 := fv 2; have fv3 := fv 3
    have hz := fin4_at X2 (.int .i64 2) (.string numB) (.int .i64 0) (.slice none 0 0)
    have hbz := fin4_b (y0 := .int .i64 2) (y1 := .string numB) (y2 := .int .i64 0) (y3 := .slice none 0 0) B2.out HBB.out
    have hdz := dk_fin HD2 X2 (.int .i64 2) (.string numB) (.int .i64 0) (.slice none 0 0)
    unfold fin4 at hz hbz hdz
    have HZ := hid_of (And.intro hbz hdz)
    clear fv b2 HD2 X2 hbz hdz
    go_wp2_with fail
    obtain ⟨⟨g0, g1, g2, g3⟩, -⟩ := box4 hz
    exact bodyPost_ret (v := rp 2 numB 0) (by simp [results, Tryz.results101, go_sem, g0, g1, g2, g3]) rfl ⟨rfl, HZ.out.2, HZ.out.1⟩
end Go.Proofs.YtcgdnpcegcmboaaGreatDoor.HInc
end
section
namespace Go.Proofs.YtcgdnpcegcmboaaGreatDoor.HIncw
open Go.RowKit Go.Maps
open Go.Proofs.YtcgdnpcegcmboaaGreatDoor.SpaceMath (wout withL lkp keys toD)
open Go.Proofs.YtcgdnpcegcmboaaGreatDoor.ValueMath (Vl chk small)
open Go.Proofs.YtcgdnpcegcmboaaGreatDoor.Base (mk mk_list mk_size Gr hid_of SL)
open Go.Proofs.YtcgdnpcegcmboaaGreatDoor.Turn
open Go.Proofs.YtcgdnpcegcmboaaGreatDoor.Vals
open Go.Proofs.YtcgdnpcegcmboaaGreatDoor.Check0 (Wel)
open Go.Proofs.YtcgdnpcegcmboaaGreatDoor.SBase
open Go.Proofs.YtcgdnpcegcmboaaGreatDoor.SFind
open Go.Proofs.YtcgdnpcegcmboaaGreatDoor.SPut (vO)
open Go.Proofs.YtcgdnpcegcmboaaGreatDoor.QBase
open Go.Proofs.YtcgdnpcegcmboaaGreatDoor.HCmd
open Go.Proofs.YtcgdnpcegcmboaaGreatDoor.DiBase (DK)
open Go.Proofs.YtcgdnpcegcmboaaGreatDoor.Parse (Has)
set_option linter.unusedVariables false
set_option linter.unusedSimpArgs false
open Go.Proofs.YtcgdnpcegcmboaaGreatDoor.HFld
open Go.Proofs.YtcgdnpcegcmboaaGreatDoor.HChg (Lay change_ok change_ok2)
open Go.Proofs.YtcgdnpcegcmboaaGreatDoor.HInc
open Go.Lib (itoa)
section
variable {F X : Nat → Prop} {b : Nat} {w : World} {S : Sp}
set_option maxHeartbeats 8000000 in
set_option maxRecDepth 100000 in
theorem increment_ok (h : SP F X b w S) (k : Bs) (hk : k.length ≤ 281474976710656) (now : Int) {G : Nat → Prop} {a : Option Addr} {n c : Nat} {ps : List Base.El} (hw : SL G w (.slice a n c) ps) (h1 : 1 < ps.length) (hb : ∀ t ∈ ps, t.length ≤ 140737488351232) (hh : Has w) {y : Int} (hp : prs ps[1] = some y) {L L' : FL} {S' : Sp} (hL : flds S now k L) (fit : Fit L) (hn' : L'.length < 8796093022208) (hlay : Lay S now k L L' S') (rk : Int) (rT : ByteArray) (rn : Int)
    (hcl : ∀ (B : Nat) (V : World) (q q2 d m : Nat), V.heap[q]? = some (cO b now (mk k) a n c) → V.heap[q2]? = some (iO y) → SL G V (.slice a n c) ps → Has V → B ≤ V.heap.size → DK d m L V → B ≤ m → Calls Tryz.prog 101 #[ptr d, .pointer (some ⟨q, 0, none⟩), .pointer (some ⟨q2, 0, none⟩)] V fun e w' => e = .returned (rp rk rT rn) ∧ DK d m L' w' ∧ Below B V w') :
    Calls Tryz.prog 59 #[cV b now (mk k) a n c] w fun e w' => e = .returned (rp rk rT rn) ∧ Dn F X b w w' S' := by
  obtain ⟨rfl, hcs⟩ := sl_get hw
  obtain ⟨ga, oa, rfl, hc1⟩ := hcs 1 h1
  have hga : ga < w.heap.size := Base.cell_lt hc1
  obtain ⟨W, hW⟩ : ∃ W, W = (w.alloc (cO b now (mk k) (some ⟨ga, oa, none⟩) ps.length c)).alloc (rO 0 ⟨#[]⟩ 0 (.slice none 0 0)) := ⟨_, rfl⟩
  obtain ⟨bW, x0, x1, sW⟩ := two_boxes w (cO b now (mk k) (some ⟨ga, oa, none⟩) ps.length c) (rO 0 ⟨#[]⟩ 0 (.slice none 0 0)) ⟨_, _, rfl⟩
  rw [← hW] at bW x0 x1 sW
  obtain ⟨⟨c0, c1', c2, c3⟩, -⟩ := box4 x0
  have c3a := c3
  have hcw := (bW.cell (p := ⟨ga, oa + 1, none⟩) hga).trans hc1
  have hca := hcw
  have hgw : ga < W.heap.size := Base.cell_lt hcw
  have hgv := hgw
  rw [hW] at c3a hca hgv
  have i1 : (1 : Int) < (ps.length : Int) := by omega
  have HN := hid_of (num_some (hb _ (List.getElem_mem h1)) hp W (hh.later bW))
  have H1 := hid_of fun (V : World) (hV : Below W.heap.size W V) (q2 : Nat) (hq2 : V.heap[q2]? = some (iO y)) => change_ok2 (sp_wide h (bW.trans (hV.mono bW.size))) k hk now (some ⟨ga, oa, none⟩) ps.length c hL fit hn' hlay 101 (.pointer (some ⟨w.heap.size, 0, none⟩)) (.pointer (some ⟨q2, 0, none⟩)) (fun args w => by kernel_rfl) rk rT rn
    (fun B V2 d m hB1 hB2 hV2 hd hdB hmB => hcl B V2 w.heap.size q2 d m ((hV2.block _ (lt_of ((hV.block _ (lt_of x0)).trans x0))).trans ((hV.block _ (lt_of x0)).trans x0)) ((hV2.block _ (lt_of hq2)).trans hq2) (((hw.below bW).below hV).below hV2) (((hh.later bW).later hV).later hV2) hB2 hd hmB)
  have HH := hid_of h
  have HB := hid_of bW
  have HX0 := hid_of x0
  have HX1 := hid_of x1
  have HSW := hid_of sW
  have HW := hid_of hW
  clear hW bW x0 x1 sW h hL fit hn' hlay hw hb hh hcl hcs hc1
  generalize mk ps[1] = N1 at *
  generalize mk k = K at *
  go_enter Tryz.func59, Tryz.ntmps59
  go_wp2_with fail
  rw [← HW.out]
  go_wp2_with fail
  refine HN.out.mono ?_
  rintro e w1 ⟨rfl, b1⟩
  obtain ⟨W2, hW2⟩ : ∃ W, W = w1.alloc (iO y) := ⟨_, rfl⟩
  have b2 : Below w1.heap.size w1 W2 := by rw [hW2]; exact alb _ _
  have x2 : W2.heap[w1.heap.size]? = some (iO y) := by rw [hW2]; exact heap_alloc_new w1 _
  have B2 := hid_of (FRow.bel b1 b2 (Nat.le_refl _))
  have HQ := hid_of (H1.out W2 B2.out w1.heap.size x2)
  have HW2 := hid_of hW2
  have BW2 := hid_of (HB.out.trans (B2.out.mono HB.out.size))
  have X1 := hid_of ((B2.out.block _ (lt_of HX1.out)).trans HX1.out)
  obtain ⟨⟨u0, u1, u2, u3⟩, -⟩ := box4 ((B2.out.block _ (lt_of HX0.out)).trans HX0.out)
  have t1 : HCmd.Tmp w W2 (w.heap.size + 1) := ⟨by omega, by have := B2.out.size; rw [HSW.out] at this; omega⟩
  have u0a := u0
  have u1a := u1
  have u2a := u2
  have u3a := u3
  rw [hW2] at u0a u1a u2a u3a
  clear hW2 b1 b2 x2 HN c0 c1' c2 c3 hca hcw c3a
  go_wp2_with fail
  rw [← HW2.out]
  go_wp2_with fail
  refine HQ.out.mono ?_
  rintro e w3 ⟨rfl, d3⟩
  have D3 := hid_of d3
  have z3 := (dn_block HH.out BW2.out d3 t1).trans X1.out
  obtain ⟨⟨v0, v1, v2, v3⟩, fv⟩ := box4 z3
  have fv0 := fv 0; have fv1 := fv 1; have fv2 := fv 2; have fv3 := fv 3
  have hz := fin4_at z3 (.int .i64 rk) (.string rT) (.int .i64 rn) (.slice none 0 0)
  have hdn := dn_tmp HH.out BW2.out D3.out (ev_fin4 t1 (.int .i64 rk) (.string rT) (.int .i64 rn) (.slice none 0 0))
  unfold fin4 at hz hdn
  have HDN := hid_of hdn
  clear fv z3 d3 HQ hdn
  go_wp2_with fail
  obtain ⟨⟨g0, g1, g2, g3⟩, -⟩ := box4 hz
  exact bodyPost_ret (v := rp rk rT rn) (by simp [results, Tryz.results59, go_sem, g0, g1, g2, g3]) rfl ⟨rfl, HDN.out⟩
set_option maxHeartbeats 8000000 in
set_option maxRecDepth 100000 in
theorem increment_bad (h : SP F X b w S) (k : Bs) (hk : k.length ≤ 281474976710656) (now : Int) {G : Nat → Prop} {a : Option Addr} {n c : Nat} {ps : List Base.El} (hw : SL G w (.slice a n c) ps) (h1 : 1 < ps.length) (hb : ∀ t ∈ ps, t.length ≤ 140737488351232) (hh : Has w) (hp : prs ps[1] = none) :
    Calls Tryz.prog 59 #[cV b now (mk k) a n c] w fun e w' => e = .returned (rp 2 numB 0) ∧ Below w.heap.size w w' := by
  obtain ⟨rfl, hcs⟩ := sl_get hw
  obtain ⟨ga, oa, rfl, hc1⟩ := hcs 1 h1
  have hga : ga < w.heap.size := Base.cell_lt hc1
  obtain ⟨W, hW⟩ : ∃ W, W = (w.alloc (cO b now (mk k) (some ⟨ga, oa, none⟩) ps.length c)).alloc (rO 0 ⟨#[]⟩ 0 (.slice none 0 0)) := ⟨_, rfl⟩
  obtain ⟨bW, x0, x1, sW⟩ := two_boxes w (cO b now (mk k) (some ⟨ga, oa, none⟩) ps.length c) (rO 0 ⟨#[]⟩ 0 (.slice none 0 0)) ⟨_, _, rfl⟩
  rw [← hW] at bW x0 x1 sW
  obtain ⟨⟨c0, c1', c2, c3⟩, -⟩ := box4 x0
  have c3a := c3
  have hcw := (bW.cell (p := ⟨ga, oa + 1, none⟩) hga).trans hc1
  have hca := hcw
  have hgw : ga < W.heap.size := Base.cell_lt hcw
  have hgv := hgw
  rw [hW] at c3a hca hgv
  have i1 : (1 : Int) < (ps.length : Int) := by omega
  have HN := hid_of (num_none (hb _ (List.getElem_mem h1)) hp W (hh.later bW))
  have H3 := hid_of (@refused_call)
  have HB := hid_of bW
  have HX1 := hid_of x1
  have HW := hid_of hW
  clear hW bW x0 x1 sW h hw hb hh hcs hc1
  generalize mk ps[1] = N1 at *
  generalize mk k = K at *
  go_enter Tryz.func59, Tryz.ntmps59
  go_wp2_with fail
  rw [← HW.out]
  go_wp2_with fail
  refine HN.out.mono ?_
  rintro e w1 ⟨rfl, b1⟩
  obtain ⟨W2, hW2⟩ : ∃ W, W = w1.alloc (iO 0) := ⟨_, rfl⟩
  have b2 : Below w1.heap.size w1 W2 := by rw [hW2]; exact alb _ _
  have B2 := hid_of (FRow.bel b1 b2 (Nat.le_refl _))
  have BW2 := hid_of (HB.out.trans (B2.out.mono HB.out.size))
  have X1 := hid_of ((B2.out.block _ (lt_of HX1.out)).trans HX1.out)
  have HW2 := hid_of hW2
  clear hW2 b1 b2 HN c0 c1' c2 c3 hca hcw c3a
  go_wp2_with fail
  rw [← HW2.out]
  refine (H3.out _ W2).mono ?_
  rintro e w3 ⟨rfl, b3⟩
  have B3 := hid_of (BW2.out.trans (b3.mono BW2.out.size))
  have X3 := hid_of ((b3.block _ (lt_of X1.out)).trans X1.out)
  obtain ⟨⟨v0, v1, v2, v3⟩, fv⟩ := box4 X3.out
  have fv0 := fv 0; have fv1 := fv 1; have fv2 := fv 2; have fv3 := fv 3
  have hz := fin4_at X3.out (.int .i64 2) (.string numB) (.int .i64 0) (.slice none 0 0)
  have hbz := fin4_b (y0 := .int .i64 2) (y1 := .string numB) (y2 := .int .i64 0) (y3 := .slice none 0 0) B3.out (show w.heap.size ≤ w.heap.size + 1 by omega)
  unfold fin4 at hz hbz
  have HBZ := hid_of hbz
  clear fv b3 hbz
  go_wp2_with fail
  obtain ⟨⟨g0, g1, g2, g3⟩, -⟩ := box4 hz
  exact bodyPost_ret (v := rp 2 numB 0) (by simp [results, Tryz.results59, go_sem, g0, g1, g2, g3]) rfl ⟨rfl, HBZ.out⟩
end
end Go.Proofs.YtcgdnpcegcmboaaGreatDoor.HIncw
end
