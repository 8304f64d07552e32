/- The document's space: a first value is put into it. -/
import Derived.Test.YtpibeabokedpdaaGreatDoorQDocAM
import Derived.Deep.RegionWith
import Derived.Deep.DeepCutAuto
namespace Go.Proofs.YtpibeabokedpdaaGreatDoor.QDocP
open Go.RowKit Go.Maps
open Go.Proofs.YtpibeabokedpdaaGreatDoor.SpaceMath
open Go.Proofs.YtpibeabokedpdaaGreatDoor.ValueMath (Vl chk small)
open Go.Proofs.YtpibeabokedpdaaGreatDoor.Base (mk mk_list mk_size Gr hid_of SL)
open Go.Proofs.YtpibeabokedpdaaGreatDoor.Turn
open Go.Proofs.YtpibeabokedpdaaGreatDoor.Vals
open Go.Proofs.YtpibeabokedpdaaGreatDoor.Check0 (Wel)
open Go.Proofs.YtpibeabokedpdaaGreatDoor.SBase
open Go.Proofs.YtpibeabokedpdaaGreatDoor.SFind (alb)
open Go.Proofs.YtpibeabokedpdaaGreatDoor.QCmd
open Go.Proofs.YtpibeabokedpdaaGreatDoor.QPut
open Go.Proofs.YtpibeabokedpdaaGreatDoor.QDocA
open Go.Proofs.YtpibeabokedpdaaGreatDoor.QDocB
set_option linter.unusedVariables false
set_option linter.unusedSimpArgs false
theorem vn_s {B : Nat} {w : World} {v : Value} {T : SBase.Bs} (h : VN B w v (sV T)) : ∃ a n c a' n' c' a'' n'' c'', v = .agg #[.int .i64 1, .string (mk T), .slice a n c, .slice a' n' c', .slice a'' n'' c''] := by
  obtain ⟨a, b, c, rfl, h1, h2, h3⟩ := h
  obtain ⟨a1, c1, rfl, _⟩ := h1.shape
  obtain ⟨a2, c2, rfl⟩ := shapeFRow h2
  obtain ⟨a3, c3, rfl⟩ := shapeERow h3
  exact ⟨_, _, _, _, _, _, _, _, _, rfl⟩
set_option maxRecDepth 100000 in
set_option maxHeartbeats 4000000 in
theorem put_call {w : World} {bx n : Nat} (hx : w.heap[bx]? = some (dO nl (n : Int))) (hn : n < 1000) (K : ByteArray) (T : SBase.Bs) (hT : T.length ≤ 1048576) (d : Int) (hd : 0 ≤ d ∧ d ≤ 9007199254740992) :
    Calls Tryz.prog 25 #[ptr bx, .string K, vV (mk T), .int .i64 d] w fun e w' => e = .returned (.int .i64 0) ∧ Ev (fun k => k = bx) w w' := by
  obtain ⟨W, hW⟩ : ∃ W, W = w.alloc (vO (mk T)) := ⟨_, rfl⟩
  have bW : Below w.heap.size w W := by rw [hW]; exact alb _ _
  have x : W.heap[w.heap.size]? = some (vO (mk T)) := by rw [hW]; exact heap_alloc_new w _
  have hbx := lt_of hx
  obtain ⟨⟨v0, v1, v2, v3, v4⟩, -⟩ := box5 x
  have HX := hid_of x
  have HB := hid_of bW
  have HW := hid_of hW
  have HD := hid_of hx
  have HF := hid_of (fit_call T hT d hd W)
  have HCp := hid_of fun (V : World) => RCopy.rcopy_call (va_s T V) (x := sV T) ⟨by simp, by simp, by simp⟩
  have HVn := hid_of fun (B : Nat) (w : World) (v : Value) (h : VN B w v (sV T)) => vn_s h
  clear hW bW x hx
  generalize hTT : mk T = TT at *
  clear hTT
  go_enter Tryz.func25, Tryz.ntmps25
  go_wp2_with fail
  rw [← HW.out]
  go_wp2_with fail
  refine HF.out.mono ?_
  rintro e w1 ⟨rfl, b1⟩
  have B1 := hid_of (FRow.bel HB.out b1 (Nat.le_refl _))
  have X1 := hid_of ((b1.block _ (lt_of HX.out)).trans HX.out)
  obtain ⟨⟨y0, y1, y2, y3, y4⟩, -⟩ := box5 X1.out
  clear v0 v1 v2 v3 v4 b1 HF HW HB HX
  go_wp2_with fail
  refine (HCp.out w1).mono ?_
  rintro e w2 ⟨u, rfl, hu, b2⟩
  obtain ⟨a1, n1, c1, a2, n2, c2, a3, n3, c3, rfl⟩ := HVn.out _ _ _ hu
  have B2 := hid_of (FRow.bel B1.out b2 (Nat.le_refl _))
  have x2 := (b2.block _ (lt_of X1.out)).trans X1.out
  clear y0 y1 y2 y3 y4 hu b2 B1 X1 HCp HVn
  obtain ⟨V, hV⟩ : ∃ V, V = ((((w2.setCell ⟨w.heap.size, 0, none⟩ (.int .i64 1)).setCell ⟨w.heap.size, 1, none⟩ (.string TT)).setCell ⟨w.heap.size, 2, none⟩ (.slice a1 n1 c1)).setCell ⟨w.heap.size, 3, none⟩ (.slice a2 n2 c2)).setCell ⟨w.heap.size, 4, none⟩ (.slice a3 n3 c3) := ⟨_, rfl⟩
  have hxV : V.heap[w.heap.size]? = some (.cells #[.int .i64 1, .string TT, .slice a1 n1 c1, .slice a2 n2 c2, .slice a3 n3 c3] 40 (0, 0)) := by
    rw [hV]
    simpa using set_at (i := 4) (set_at (i := 3) (set_at (i := 2) (set_at (i := 1) (set_at (i := 0) x2 (.int .i64 1)) (.string TT)) (.slice a1 n1 c1)) (.slice a2 n2 c2)) (.slice a3 n3 c3)
  have BV : Below w.heap.size w V := by
    rw [hV]
    exact ((((B2.out.setCell (Nat.le_refl _) _).setCell (Nat.le_refl _) _).setCell (Nat.le_refl _) _).setCell (Nat.le_refl _) _).setCell (Nat.le_refl _) _
  have HXV := hid_of hxV
  have HBV := hid_of BV
  have HV := hid_of hV
  obtain ⟨⟨z0, z1, z2, z3, z4⟩, fz⟩ := box5 x2
  have f0 := fz 0
  have f1 := fz 1
  have f2 := fz 2
  have f3 := fz 3
  have f4 := fz 4
  have HN := hid_of (note_call ((BV.block _ hbx).trans HD.out) hn K)
  clear x2 fz hV hxV BV
  go_wp2_with fail
  rw [← HV.out]
  refine HN.out.mono ?_
  rintro e w3 ⟨rfl, hd3, ev3⟩
  have x3 := (ev3.block _ (lt_of HXV.out) (by omega)).trans HXV.out
  have HX3 := hid_of x3
  have HD3 := hid_of hd3
  have E3 := hid_of ((Ev.of_below HBV.out : Ev (fun k => k = bx) w V).trans ev3)
  have HB3 := hid_of (lt_of hd3)
  have HS3 := hid_of (lt_of x3)
  have HWt := hid_of fun (V : World) => with_call K TT a1 a2 a3 n1 c1 n2 c2 n3 c3 d ((n : Int) + 1) V
  obtain ⟨⟨q0, q1, q2, q3, q4⟩, -⟩ := box5 x3
  obtain ⟨⟨r0, r1, r2, r3, r4, r5, r6⟩, fr⟩ := box7 hd3
  have fr0 := fr 0
  clear x3 hd3 ev3 fr HN HV HXV HBV HD B2 z0 z1 z2 z3 z4 f0 f1 f2 f3 f4
  go_wp2_with fail
  have hne : w.heap.size ≠ bx := by omega
  go_cut [9] (fun s9 wx => ∃ a m c, s9 = .int .i64 0 ∧ Hid (wx.heap[bx]? = some (dO (.slice a m c) ((n : Int) + 1)) ∧ wx.heap[w.heap.size]? = some (.cells #[.int .i64 1, .string TT, .slice a1 n1 c1, .slice a2 n2 c2, .slice a3 n3 c3] 40 (0, 0)) ∧ Ev (fun k => k = bx) w wx))
  case first =>
    go_region_with (first
      | (go_at_call 59; refine (HWt.out _).mono ?_; rintro e w4 ⟨⟨a, m, c, rfl⟩, b4⟩; have b4' : Below w3.heap.size w3 w4 := (by first | exact b4 | exact FRow.bel (Below.refl _ w3).drew b4 (Nat.le_refl _)); have HE4 := hid_of (E3.out.trans (Ev.of_below b4')); have HX4 := hid_of ((b4'.block _ HS3.out).trans HX3.out); have d4 := (b4'.block _ HB3.out).trans HD3.out; obtain ⟨⟨s0, s1, s2, s3, s4, s5, s6⟩, fs⟩ := box7 d4; have fs0 := fs 0; have d5 := set_at (i := 0) d4 (.slice a m c); have HD5 := hid_of (show (w4.setCell ⟨bx, 0, none⟩ (.slice a m c)).heap[bx]? = some (dO (.slice a m c) ((n : Int) + 1)) by simpa using d5); clear d5 fs d4 b4 b4'))
    all_goals
      go_wp2_with fail
      go_meet
      case rel => exact ⟨a, m, c, rfl, hid_of ⟨HD5.out, (Base.set_ne hne _).trans HX4.out, HE4.out.trans (Ev.set (M := fun k => k = bx) rfl _)⟩⟩
  case rest =>
    obtain ⟨a, m, c, rfl, HQ⟩ := hcut
    obtain ⟨⟨t0, t1, t2, t3, t4⟩, -⟩ := box5 HQ.out.2.1
    have HCh := hid_of (change_call HQ.out.1 K TT d a1 a2 a3 n1 c1 n2 c2 n3 c3)
    clear HWt q0 q1 q2 q3 q4 r0 r1 r2 r3 r4 r5 r6
    go_wp2_with fail
    refine HCh.out.mono ?_
    rintro e w6 ⟨rfl, b6⟩
    go_wp2_with fail
    exact bodyPost_ret (v := .int .i64 0) (by simp [results, Tryz.results25, go_sem]) rfl ⟨rfl, HQ.out.2.2.trans (Ev.of_below b6)⟩
end Go.Proofs.YtpibeabokedpdaaGreatDoor.QDocP
