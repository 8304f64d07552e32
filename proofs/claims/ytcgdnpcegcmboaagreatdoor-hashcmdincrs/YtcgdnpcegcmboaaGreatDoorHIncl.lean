/- HashcmdIncrs. -/
import Derived.Test.YtcgdnpcegcmboaaGreatDoorHIncr
import Derived.Test.YtcgdnpcegcmboaaGreatDoorHLenSM
namespace Go.Proofs.YtcgdnpcegcmboaaGreatDoor.HIncl
open Go.RowKit Go.Maps
open Go.Proofs.YtcgdnpcegcmboaaGreatDoor.SpaceMath (wout withL lkp keys toD)
open Go.Proofs.YtcgdnpcegcmboaaGreatDoor.ValueMath (Vl chk small)
open Go.Proofs.YtcgdnpcegcmboaaGreatDoor.Base (mk mk_list mk_size Gr hid_of SL)
open Go.Proofs.YtcgdnpcegcmboaaGreatDoor.Turn
open Go.Proofs.YtcgdnpcegcmboaaGreatDoor.Vals
open Go.Proofs.YtcgdnpcegcmboaaGreatDoor.Check0 (Wel)
open Go.Proofs.YtcgdnpcegcmboaaGreatDoor.SBase
open Go.Proofs.YtcgdnpcegcmboaaGreatDoor.SFind
open Go.Proofs.YtcgdnpcegcmboaaGreatDoor.SPut (vO)
open Go.Proofs.YtcgdnpcegcmboaaGreatDoor.QBase
open Go.Proofs.YtcgdnpcegcmboaaGreatDoor.HCmd
open Go.Proofs.YtcgdnpcegcmboaaGreatDoor.DiBase (DK)
open Go.Proofs.YtcgdnpcegcmboaaGreatDoor.Parse (Has)
set_option linter.unusedVariables false
set_option linter.unusedSimpArgs false
open Go.Proofs.YtcgdnpcegcmboaaGreatDoor.HFld
open Go.Proofs.YtcgdnpcegcmboaaGreatDoor.HChg (Lay)
open Go.Proofs.YtcgdnpcegcmboaaGreatDoor.HSet (layF)
open Go.Proofs.YtcgdnpcegcmboaaGreatDoor.HDrop (dropF dropF_len)
open Go.Proofs.YtcgdnpcegcmboaaGreatDoor.HRow (RR rpL)
open Go.Proofs.YtcgdnpcegcmboaaGreatDoor.HMap (fnV cmdL)
open Go.Proofs.YtcgdnpcegcmboaaGreatDoor.Low (low)
open Go.Proofs.YtcgdnpcegcmboaaGreatDoor.RowOf (checkS)
open Go.Lib (itoa)
open Go.Proofs.YtcgdnpcegcmboaaGreatDoor.HDo
open Go.Proofs.YtcgdnpcegcmboaaGreatDoor.HReq
open Go.Proofs.YtcgdnpcegcmboaaGreatDoor.HIncr
open Go.Proofs.YtcgdnpcegcmboaaGreatDoor.HSure (int_yes aft0 sure_call)
open Go.Proofs.YtcgdnpcegcmboaaGreatDoor.DiNumMath (InI fitB)
open Go.Proofs.YtcgdnpcegcmboaaGreatDoor.HInc (ovB)
set_option maxHeartbeats 8000000 in
set_option maxRecDepth 100000 in
theorem law_over (w : World) (hh : Has w) (n y : Int) (hn : InI n) (hy : InI y) (hf : fitB (n + y) = false) : Calls Tryz.prog 6 #[.int .i64 n, .int .i64 y] w fun e w' => e = .returned (.bool true) ∧ Below w.heap.size w w' := by
  have HHas := hid_of hh
  have HN := hid_of (STouch.new_call w)
  have HI := hid_of int_yes
  have HE := hid_of HLaw.isErr_yes
  have HSu := hid_of sure_call
  obtain ⟨TA, hTA⟩ : ∃ T, T = mk (itoa n) := ⟨_, rfl⟩
  obtain ⟨TB, hTB⟩ : ∃ T, T = mk (itoa y) := ⟨_, rfl⟩
  obtain ⟨TC, hTC⟩ : ∃ T, T = mk (itoa (n + y)) := ⟨_, rfl⟩
  obtain ⟨TD, hTD⟩ : ∃ T, T = mk (itoa (-y)) := ⟨_, rfl⟩
  have hsz : (TA.size : Int) = ((itoa n).length : Int) := by rw [hTA, mk_size]
  have HPA := hid_of fun (V : World) => (show Calls Tryz.prog 26 #[.int .i64 n] V fun e w' => e = .returned (.string TA) ∧ Below V.heap.size V w' from by rw [hTA]; exact RPrint.rprint_any n V hn)
  have HPB := hid_of fun (V : World) => (show Calls Tryz.prog 26 #[.int .i64 y] V fun e w' => e = .returned (.string TB) ∧ Below V.heap.size V w' from by rw [hTB]; exact RPrint.rprint_any y V hy)
  have HR0 := hid_of fun (F X : Nat → Prop) (b c : Nat) (V : World) (q : Nat) (h1 : 1 ≤ c) (hc : c ≤ 5) (h : SP F X b V (S0)) (hq : V.heap[q]? = some (.cells #[.string ⟨#[104, 115, 101, 116, 110, 120]⟩, .string ⟨#[104]⟩, .string ⟨#[102]⟩, .string TA] 9 (0, 0))) => (show Calls Tryz.prog 21 #[ptr b, .int .i64 0, .slice (some ⟨q, 0, none⟩) 4 4] V fun e w' => e = .returned (.agg #[.int .i64 3, .string ⟨#[]⟩, .int .i64 1, .slice none 0 0]) ∧ Dn F X b V w' (SS 1 (G1 (itoa n))) from r_new h (itoa_bd hn) (by rw [← hTA]; exact hq))
  have HR1 := hid_of fun (F X : Nat → Prop) (b c : Nat) (V : World) (q : Nat) (h1 : 1 ≤ c) (hc : c ≤ 5) (h : SP F X b V (SS c (G1 (itoa n)))) (hq : V.heap[q]? = some (.cells #[.string ⟨#[104, 115, 101, 116, 110, 120]⟩, .string ⟨#[104]⟩, .string ⟨#[102]⟩, .string TB] 9 (0, 0))) => (show Calls Tryz.prog 21 #[ptr b, .int .i64 0, .slice (some ⟨q, 0, none⟩) 4 4] V fun e w' => e = .returned (.agg #[.int .i64 3, .string ⟨#[]⟩, .int .i64 0, .slice none 0 0]) ∧ Dn F X b V w' (SS c (G1 (itoa n))) from r_old h h1 hc (itoa_bd hn) (itoa_bd hy) (by rw [← hTB]; exact hq))
  have HR2 := hid_of fun (F X : Nat → Prop) (b c : Nat) (V : World) (q : Nat) (h1 : 1 ≤ c) (hc : c ≤ 5) (h : SP F X b V (SS c (G1 (itoa n)))) (hq : V.heap[q]? = some (.cells #[.string ⟨#[104, 115, 116, 114, 108, 101, 110]⟩, .string ⟨#[104]⟩, .string ⟨#[102]⟩] 9 (0, 0))) => (show Calls Tryz.prog 21 #[ptr b, .int .i64 0, .slice (some ⟨q, 0, none⟩) 3 3] V fun e w' => e = .returned (.agg #[.int .i64 3, .string ⟨#[]⟩, .int .i64 (TA.size : Int), .slice none 0 0]) ∧ Dn F X b V w' (SS c (G1 (itoa n))) from by rw [hsz]; exact r_len h h1 hc (itoa_bd hn) hq)
  have HR3 := hid_of fun (F X : Nat → Prop) (b c : Nat) (V : World) (q : Nat) (h1 : 1 ≤ c) (hc : c ≤ 5) (h : SP F X b V (SS c (G1 (itoa n)))) (hh : Has V) (hq : V.heap[q]? = some (.cells #[.string ⟨#[104, 105, 110, 99, 114, 98, 121]⟩, .string ⟨#[104]⟩, .string ⟨#[102]⟩, .string TB] 9 (0, 0))) => (show Calls Tryz.prog 21 #[ptr b, .int .i64 0, .slice (some ⟨q, 0, none⟩) 4 4] V fun e w' => e = .returned (.agg #[.int .i64 2, .string ovB, .int .i64 0, .slice none 0 0]) ∧ Dn F X b V w' (SS c (G1 (itoa n))) from r_over h h1 hc hh hn hy hf (by rw [← hTB]; exact hq))
  have HR4 := hid_of fun (F X : Nat → Prop) (b c : Nat) (V : World) (q : Nat) (h1 : 1 ≤ c) (hc : c ≤ 5) (h : SP F X b V (SS c (G1 (itoa n)))) (hq : V.heap[q]? = some (.cells #[.string ⟨#[104, 103, 101, 116]⟩, .string ⟨#[104]⟩, .string ⟨#[102]⟩] 9 (0, 0))) => (show Calls Tryz.prog 21 #[ptr b, .int .i64 0, .slice (some ⟨q, 0, none⟩) 3 3] V fun e w' => e = .returned (.agg #[.int .i64 4, .string TA, .int .i64 0, .slice none 0 0]) ∧ Dn F X b V w' (SS c (G1 (itoa n))) from by rw [hTA]; exact r_get h h1 hc (itoa_bd hn) hq)
  have F1 : ∀ V : World, (Instr.field 25 (.agg #[.int .i64 4, .string TA, .int .i64 0, .slice none 0 0]) 1).run Tryz.prog V = .ok (.string TA) V := fun V => by kernel_rfl
  have hTT : (TA.toList == TA.toList) = true := by simp
  have HAd := hid_of fun (V : World) => (show Calls Tryz.prog 27 #[.int .i64 n, .int .i64 y] V fun e w' => e = .returned (.tuple #[.int .i64 0, .int .i64 11]) ∧ w' = V from by have H := RAdd.add_call n y V hn hy; rw [if_neg (by rw [hf]; decide), if_neg (by rw [hf]; decide)] at H; exact H)
  have Hy := hid_of (And.intro hn hy)
  clear hh hTA hTB hTC hTD hsz hn hy
  go_enter Tryz.func6, Tryz.ntmps6
  go_wp2_with fail
  refine HN.out.mono ?_
  rintro e u0 ⟨F0, rfl, hsp, hb, hF⟩
  have HSP := hid_of (show ∃ X, SP F0 X w.heap.size u0 S0 from ⟨_, hsp⟩)
  have HB := hid_of hb
  have HF := hid_of hF
  clear hsp hb hF HN
  obtain ⟨X0, hsp⟩ := HSP.out
  clear HSP
  have HSP := hid_of hsp
  clear hsp
  go_wp2_with fail
  refine (HPA.out u0).mono ?_
  rintro e c1 ⟨rfl, bb⟩
  have hsp' := HSP.out.below bb
  have hb' := HB.out.trans (bb.mono HB.out.size)
  clear HSP HB bb
  have HSP := hid_of hsp'
  have HB := hid_of hb'
  clear hsp' hb'
  go_wp2_with fail
  refine (HPB.out c1).mono ?_
  rintro e c2 ⟨rfl, bb⟩
  have hsp' := HSP.out.below bb
  have hb' := HB.out.trans (bb.mono HB.out.size)
  clear HSP HB bb
  have HSP := hid_of hsp'
  have HB := hid_of hb'
  clear hsp' hb'
  obtain ⟨V0, hV⟩ : ∃ V, V = c2.alloc (.cells #[.string ⟨#[104, 115, 101, 116, 110, 120]⟩, .string ⟨#[104]⟩, .string ⟨#[102]⟩, .string TA] 9 (0, 0)) := ⟨_, rfl⟩
  have bV : Below c2.heap.size c2 V0 := by rw [hV]; exact alb _ _
  have HQ := hid_of (HR0.out _ _ _ 1 V0 c2.heap.size (by omega) (by omega) (sp_wide HSP.out bV) (by rw [hV]; exact heap_alloc_new c2 _))
  have HW := hid_of hV
  have HbV := hid_of bV
  clear hV bV HR0
  go_wp2_with fail
  rw [← HW.out]
  refine HQ.out.mono ?_
  rintro e r0 ⟨rfl, d⟩
  obtain ⟨F10, X10, sp, B, f⟩ := aft0 HSP.out HB.out HF.out HbV.out d
  clear HSP HB HF
  have HSP := hid_of sp
  have HB := hid_of B
  have HF := hid_of f
  clear d sp B f HQ HW HbV
  go_wp2_with fail
  refine (HI.out 1 r0).mono ?_
  rintro e c3 ⟨rfl, bb⟩
  have hsp' := HSP.out.below bb
  have hb' := HB.out.trans (bb.mono HB.out.size)
  clear HSP HB bb
  have HSP := hid_of hsp'
  have HB := hid_of hb'
  clear hsp' hb'
  obtain ⟨V1, hV⟩ : ∃ V, V = c3.alloc (.cells #[.string ⟨#[104, 115, 101, 116, 110, 120]⟩, .string ⟨#[104]⟩, .string ⟨#[102]⟩, .string TB] 9 (0, 0)) := ⟨_, rfl⟩
  have bV : Below c3.heap.size c3 V1 := by rw [hV]; exact alb _ _
  have HQ := hid_of (HR1.out _ _ _ 1 V1 c3.heap.size (by omega) (by omega) (sp_wide HSP.out bV) (by rw [hV]; exact heap_alloc_new c3 _))
  have HW := hid_of hV
  have HbV := hid_of bV
  clear hV bV HR1
  go_wp2_with fail
  rw [← HW.out]
  refine HQ.out.mono ?_
  rintro e r1 ⟨rfl, d⟩
  obtain ⟨F11, X11, sp, B, f⟩ := aft0 HSP.out HB.out HF.out HbV.out d
  clear HSP HB HF
  have HSP := hid_of sp
  have HB := hid_of B
  have HF := hid_of f
  clear d sp B f HQ HW HbV
  go_wp2_with fail
  refine (HI.out 0 r1).mono ?_
  rintro e c4 ⟨rfl, bb⟩
  have hsp' := HSP.out.below bb
  have hb' := HB.out.trans (bb.mono HB.out.size)
  clear HSP HB bb
  have HSP := hid_of hsp'
  have HB := hid_of hb'
  clear hsp' hb'
  obtain ⟨V2, hV⟩ : ∃ V, V = c4.alloc (.cells #[.string ⟨#[104, 115, 116, 114, 108, 101, 110]⟩, .string ⟨#[104]⟩, .string ⟨#[102]⟩] 9 (0, 0)) := ⟨_, rfl⟩
  have bV : Below c4.heap.size c4 V2 := by rw [hV]; exact alb _ _
  have HQ := hid_of (HR2.out _ _ _ 1 V2 c4.heap.size (by omega) (by omega) (sp_wide HSP.out bV) (by rw [hV]; exact heap_alloc_new c4 _))
  have HW := hid_of hV
  have HbV := hid_of bV
  clear hV bV HR2
  go_wp2_with fail
  rw [← HW.out]
  refine HQ.out.mono ?_
  rintro e r2 ⟨rfl, d⟩
  obtain ⟨F12, X12, sp, B, f⟩ := aft0 HSP.out HB.out HF.out HbV.out d
  clear HSP HB HF
  have HSP := hid_of sp
  have HB := hid_of B
  have HF := hid_of f
  clear d sp B f HQ HW HbV
  go_wp2_with fail
  refine (HI.out (TA.size : Int) r2).mono ?_
  rintro e c5 ⟨rfl, bb⟩
  have hsp' := HSP.out.below bb
  have hb' := HB.out.trans (bb.mono HB.out.size)
  clear HSP HB bb
  have HSP := hid_of hsp'
  have HB := hid_of hb'
  clear hsp' hb'
  obtain ⟨V3, hV⟩ : ∃ V, V = c5.alloc (.cells #[.string ⟨#[104, 105, 110, 99, 114, 98, 121]⟩, .string ⟨#[104]⟩, .string ⟨#[102]⟩, .string TB] 9 (0, 0)) := ⟨_, rfl⟩
  have bV : Below c5.heap.size c5 V3 := by rw [hV]; exact alb _ _
  have HQ := hid_of (HR3.out _ _ _ 1 V3 c5.heap.size (by omega) (by omega) (sp_wide HSP.out bV) (HHas.out.later (HB.out.trans (bV.mono HB.out.size))) (by rw [hV]; exact heap_alloc_new c5 _))
  have HW := hid_of hV
  have HbV := hid_of bV
  clear hV bV HR3
  go_wp2_with fail
  rw [← HW.out]
  refine HQ.out.mono ?_
  rintro e r3 ⟨rfl, d⟩
  obtain ⟨F13, X13, sp, B, f⟩ := aft0 HSP.out HB.out HF.out HbV.out d
  clear HSP HB HF
  have HSP := hid_of sp
  have HB := hid_of B
  have HF := hid_of f
  clear d sp B f HQ HW HbV
  obtain ⟨Z, hZ⟩ : ∃ Z, Z = r3.alloc (rO 2 ovB 0 (.slice none 0 0)) := ⟨_, rfl⟩
  have bZ : Below r3.heap.size r3 Z := by rw [hZ]; exact alb _ _
  have xZ : Z.heap[r3.heap.size]? = some (rO 2 ovB 0 (.slice none 0 0)) := by rw [hZ]; exact heap_alloc_new r3 _
  have HZ := hid_of hZ
  have hsp' := HSP.out.below bZ
  have hb' := HB.out.trans (bZ.mono HB.out.size)
  clear HSP HB bZ hZ
  have HSP := hid_of hsp'
  have HB := hid_of hb'
  clear hsp' hb'
  go_wp2_with fail
  rw [← HZ.out]
  clear HZ
  obtain ⟨⟨g0, g1, g2, g3⟩, -⟩ := box4 xZ
  clear xZ
  refine (HAd.out Z).mono ?_
  rintro e w0 ⟨rfl, hw0⟩
  have hw0 := hw0.symm
  subst hw0
  clear HAd
  go_wp2_with fail
  refine (HE.out ovB 0 Z).mono ?_
  rintro e c6 ⟨rfl, bb⟩
  have hsp' := HSP.out.below bb
  have hb' := HB.out.trans (bb.mono HB.out.size)
  clear HSP HB bb
  have HSP := hid_of hsp'
  have HB := hid_of hb'
  clear hsp' hb'
  clear g0 g1 g2 g3
  obtain ⟨V4, hV⟩ : ∃ V, V = c6.alloc (.cells #[.string ⟨#[104, 103, 101, 116]⟩, .string ⟨#[104]⟩, .string ⟨#[102]⟩] 9 (0, 0)) := ⟨_, rfl⟩
  have bV : Below c6.heap.size c6 V4 := by rw [hV]; exact alb _ _
  have HQ := hid_of (HR4.out _ _ _ 1 V4 c6.heap.size (by omega) (by omega) (sp_wide HSP.out bV) (by rw [hV]; exact heap_alloc_new c6 _))
  have HW := hid_of hV
  have HbV := hid_of bV
  clear hV bV HR4
  go_wp2_with fail
  rw [← HW.out]
  refine HQ.out.mono ?_
  rintro e r4 ⟨rfl, d⟩
  obtain ⟨F14, X14, sp, B, f⟩ := aft0 HSP.out HB.out HF.out HbV.out d
  clear HSP HB HF
  have HSP := hid_of sp
  have HB := hid_of B
  have HF := hid_of f
  clear d sp B f HQ HW HbV
  go_wp2_with fail
  refine (HSu.out r4 (HHas.out.later HB.out)).mono ?_
  rintro e c7 ⟨rfl, bb⟩
  have hsp' := HSP.out.below bb
  have hb' := HB.out.trans (bb.mono HB.out.size)
  clear HSP HB bb
  have HSP := hid_of hsp'
  have HB := hid_of hb'
  clear hsp' hb'
  go_wp2_with fail
  exact bodyPost_ret (v := .bool true) (by simp [results, Tryz.results6, go_sem]) rfl ⟨rfl, HB.out⟩
set_option maxHeartbeats 8000000 in
set_option maxRecDepth 100000 in
theorem law_same (w : World) (hh : Has w) (n y : Int) (hn : InI n) (hy : InI y) (hf : fitB (n + y) = true) (hyy : y = 0 ∨ y = -9223372036854775808) : Calls Tryz.prog 6 #[.int .i64 n, .int .i64 y] w fun e w' => e = .returned (.bool true) ∧ Below w.heap.size w w' := by
  have HHas := hid_of hh
  have HN := hid_of (STouch.new_call w)
  have HI := hid_of int_yes
  have HE := hid_of HLaw.isErr_yes
  have HSu := hid_of sure_call
  obtain ⟨TA, hTA⟩ : ∃ T, T = mk (itoa n) := ⟨_, rfl⟩
  obtain ⟨TB, hTB⟩ : ∃ T, T = mk (itoa y) := ⟨_, rfl⟩
  obtain ⟨TC, hTC⟩ : ∃ T, T = mk (itoa (n + y)) := ⟨_, rfl⟩
  obtain ⟨TD, hTD⟩ : ∃ T, T = mk (itoa (-y)) := ⟨_, rfl⟩
  have hsz : (TA.size : Int) = ((itoa n).length : Int) := by rw [hTA, mk_size]
  have HPA := hid_of fun (V : World) => (show Calls Tryz.prog 26 #[.int .i64 n] V fun e w' => e = .returned (.string TA) ∧ Below V.heap.size V w' from by rw [hTA]; exact RPrint.rprint_any n V hn)
  have HPB := hid_of fun (V : World) => (show Calls Tryz.prog 26 #[.int .i64 y] V fun e w' => e = .returned (.string TB) ∧ Below V.heap.size V w' from by rw [hTB]; exact RPrint.rprint_any y V hy)
  have HR0 := hid_of fun (F X : Nat → Prop) (b c : Nat) (V : World) (q : Nat) (h1 : 1 ≤ c) (hc : c ≤ 5) (h : SP F X b V (S0)) (hq : V.heap[q]? = some (.cells #[.string ⟨#[104, 115, 101, 116, 110, 120]⟩, .string ⟨#[104]⟩, .string ⟨#[102]⟩, .string TA] 9 (0, 0))) => (show Calls Tryz.prog 21 #[ptr b, .int .i64 0, .slice (some ⟨q, 0, none⟩) 4 4] V fun e w' => e = .returned (.agg #[.int .i64 3, .string ⟨#[]⟩, .int .i64 1, .slice none 0 0]) ∧ Dn F X b V w' (SS 1 (G1 (itoa n))) from r_new h (itoa_bd hn) (by rw [← hTA]; exact hq))
  have HR1 := hid_of fun (F X : Nat → Prop) (b c : Nat) (V : World) (q : Nat) (h1 : 1 ≤ c) (hc : c ≤ 5) (h : SP F X b V (SS c (G1 (itoa n)))) (hq : V.heap[q]? = some (.cells #[.string ⟨#[104, 115, 101, 116, 110, 120]⟩, .string ⟨#[104]⟩, .string ⟨#[102]⟩, .string TB] 9 (0, 0))) => (show Calls Tryz.prog 21 #[ptr b, .int .i64 0, .slice (some ⟨q, 0, none⟩) 4 4] V fun e w' => e = .returned (.agg #[.int .i64 3, .string ⟨#[]⟩, .int .i64 0, .slice none 0 0]) ∧ Dn F X b V w' (SS c (G1 (itoa n))) from r_old h h1 hc (itoa_bd hn) (itoa_bd hy) (by rw [← hTB]; exact hq))
  have HR2 := hid_of fun (F X : Nat → Prop) (b c : Nat) (V : World) (q : Nat) (h1 : 1 ≤ c) (hc : c ≤ 5) (h : SP F X b V (SS c (G1 (itoa n)))) (hq : V.heap[q]? = some (.cells #[.string ⟨#[104, 115, 116, 114, 108, 101, 110]⟩, .string ⟨#[104]⟩, .string ⟨#[102]⟩] 9 (0, 0))) => (show Calls Tryz.prog 21 #[ptr b, .int .i64 0, .slice (some ⟨q, 0, none⟩) 3 3] V fun e w' => e = .returned (.agg #[.int .i64 3, .string ⟨#[]⟩, .int .i64 (TA.size : Int), .slice none 0 0]) ∧ Dn F X b V w' (SS c (G1 (itoa n))) from by rw [hsz]; exact r_len h h1 hc (itoa_bd hn) hq)
  have hs : InI (n + y) := by have h := hf; unfold fitB at h; unfold InI; exact of_decide_eq_true h
  have HPC := hid_of fun (V : World) => (show Calls Tryz.prog 26 #[.int .i64 (n + y)] V fun e w' => e = .returned (.string TC) ∧ Below V.heap.size V w' from by rw [hTC]; exact RPrint.rprint_any (n + y) V hs)
  have HR3 := hid_of fun (F X : Nat → Prop) (b c : Nat) (V : World) (q : Nat) (h1 : 1 ≤ c) (hc : c ≤ 5) (h : SP F X b V (SS c (G1 (itoa n)))) (hh : Has V) (hq : V.heap[q]? = some (.cells #[.string ⟨#[104, 105, 110, 99, 114, 98, 121]⟩, .string ⟨#[104]⟩, .string ⟨#[102]⟩, .string TB] 9 (0, 0))) => (show Calls Tryz.prog 21 #[ptr b, .int .i64 0, .slice (some ⟨q, 0, none⟩) 4 4] V fun e w' => e = .returned (.agg #[.int .i64 3, .string ⟨#[]⟩, .int .i64 (n + y), .slice none 0 0]) ∧ ∃ c', (1 ≤ c' ∧ c' ≤ c + 1) ∧ Dn F X b V w' (SS c' (G1 (itoa (n + y)))) from r_inc h h1 hc hh hn hy hs rfl (by rw [← hTB]; exact hq))
  have HR4 := hid_of fun (F X : Nat → Prop) (b c : Nat) (V : World) (q : Nat) (h1 : 1 ≤ c) (hc : c ≤ 5) (h : SP F X b V (SS c (G1 (itoa (n + y))))) (hq : V.heap[q]? = some (.cells #[.string ⟨#[104, 103, 101, 116]⟩, .string ⟨#[104]⟩, .string ⟨#[102]⟩] 9 (0, 0))) => (show Calls Tryz.prog 21 #[ptr b, .int .i64 0, .slice (some ⟨q, 0, none⟩) 3 3] V fun e w' => e = .returned (.agg #[.int .i64 4, .string TC, .int .i64 0, .slice none 0 0]) ∧ Dn F X b V w' (SS c (G1 (itoa (n + y)))) from by rw [hTC]; exact r_get h h1 hc (itoa_bd hs) hq)
  have HR5 := hid_of fun (F X : Nat → Prop) (b c : Nat) (V : World) (q : Nat) (h1 : 1 ≤ c) (hc : c ≤ 5) (h : SP F X b V (SS c (G1 (itoa (n + y))))) (hh : Has V) (hq : V.heap[q]? = some (.cells #[.string ⟨#[104, 105, 110, 99, 114, 98, 121]⟩, .string ⟨#[104]⟩, .string ⟨#[103]⟩, .string TB] 9 (0, 0))) => (show Calls Tryz.prog 21 #[ptr b, .int .i64 0, .slice (some ⟨q, 0, none⟩) 4 4] V fun e w' => e = .returned (.agg #[.int .i64 3, .string ⟨#[]⟩, .int .i64 y, .slice none 0 0]) ∧ ∃ c', (1 ≤ c' ∧ c' ≤ c + 1) ∧ Dn F X b V w' (SS c' (G2 (itoa (n + y)) (itoa y))) from r_incg h h1 hc hh hs hy (by rw [← hTB]; exact hq))
  have hwn : IntKind.i64.wrap (-y) = y := by rcases hyy with rfl | rfl <;> rfl
  have F1 : ∀ V : World, (Instr.field 25 (.agg #[.int .i64 4, .string TC, .int .i64 0, .slice none 0 0]) 1).run Tryz.prog V = .ok (.string TC) V := fun V => by kernel_rfl
  have hTT : (TC.toList == TC.toList) = true := by simp
  have HAd := hid_of fun (V : World) => (show Calls Tryz.prog 27 #[.int .i64 n, .int .i64 y] V fun e w' => e = .returned (.tuple #[.int .i64 (n + y), .int .i64 0]) ∧ w' = V from by have H := RAdd.add_call n y V hn hy; rw [if_pos hf, if_pos hf] at H; exact H)
  have Hy := hid_of (And.intro hn hy)
  clear hh hTA hTB hTC hTD hsz hn hy hs
  go_enter Tryz.func6, Tryz.ntmps6
  go_wp2_with fail
  refine HN.out.mono ?_
  rintro e u0 ⟨F0, rfl, hsp, hb, hF⟩
  have HSP := hid_of (show ∃ X, SP F0 X w.heap.size u0 S0 from ⟨_, hsp⟩)
  have HB := hid_of hb
  have HF := hid_of hF
  clear hsp hb hF HN
  obtain ⟨X0, hsp⟩ := HSP.out
  clear HSP
  have HSP := hid_of hsp
  clear hsp
  go_wp2_with fail
  refine (HPA.out u0).mono ?_
  rintro e c1 ⟨rfl, bb⟩
  have hsp' := HSP.out.below bb
  have hb' := HB.out.trans (bb.mono HB.out.size)
  clear HSP HB bb
  have HSP := hid_of hsp'
  have HB := hid_of hb'
  clear hsp' hb'
  go_wp2_with fail
  refine (HPB.out c1).mono ?_
  rintro e c2 ⟨rfl, bb⟩
  have hsp' := HSP.out.below bb
  have hb' := HB.out.trans (bb.mono HB.out.size)
  clear HSP HB bb
  have HSP := hid_of hsp'
  have HB := hid_of hb'
  clear hsp' hb'
  obtain ⟨V0, hV⟩ : ∃ V, V = c2.alloc (.cells #[.string ⟨#[104, 115, 101, 116, 110, 120]⟩, .string ⟨#[104]⟩, .string ⟨#[102]⟩, .string TA] 9 (0, 0)) := ⟨_, rfl⟩
  have bV : Below c2.heap.size c2 V0 := by rw [hV]; exact alb _ _
  have HQ := hid_of (HR0.out _ _ _ 1 V0 c2.heap.size (by omega) (by omega) (sp_wide HSP.out bV) (by rw [hV]; exact heap_alloc_new c2 _))
  have HW := hid_of hV
  have HbV := hid_of bV
  clear hV bV HR0
  go_wp2_with fail
  rw [← HW.out]
  refine HQ.out.mono ?_
  rintro e r0 ⟨rfl, d⟩
  obtain ⟨F10, X10, sp, B, f⟩ := aft0 HSP.out HB.out HF.out HbV.out d
  clear HSP HB HF
  have HSP := hid_of sp
  have HB := hid_of B
  have HF := hid_of f
  clear d sp B f HQ HW HbV
  go_wp2_with fail
  refine (HI.out 1 r0).mono ?_
  rintro e c3 ⟨rfl, bb⟩
  have hsp' := HSP.out.below bb
  have hb' := HB.out.trans (bb.mono HB.out.size)
  clear HSP HB bb
  have HSP := hid_of hsp'
  have HB := hid_of hb'
  clear hsp' hb'
  obtain ⟨V1, hV⟩ : ∃ V, V = c3.alloc (.cells #[.string ⟨#[104, 115, 101, 116, 110, 120]⟩, .string ⟨#[104]⟩, .string ⟨#[102]⟩, .string TB] 9 (0, 0)) := ⟨_, rfl⟩
  have bV : Below c3.heap.size c3 V1 := by rw [hV]; exact alb _ _
  have HQ := hid_of (HR1.out _ _ _ 1 V1 c3.heap.size (by omega) (by omega) (sp_wide HSP.out bV) (by rw [hV]; exact heap_alloc_new c3 _))
  have HW := hid_of hV
  have HbV := hid_of bV
  clear hV bV HR1
  go_wp2_with fail
  rw [← HW.out]
  refine HQ.out.mono ?_
  rintro e r1 ⟨rfl, d⟩
  obtain ⟨F11, X11, sp, B, f⟩ := aft0 HSP.out HB.out HF.out HbV.out d
  clear HSP HB HF
  have HSP := hid_of sp
  have HB := hid_of B
  have HF := hid_of f
  clear d sp B f HQ HW HbV
  go_wp2_with fail
  refine (HI.out 0 r1).mono ?_
  rintro e c4 ⟨rfl, bb⟩
  have hsp' := HSP.out.below bb
  have hb' := HB.out.trans (bb.mono HB.out.size)
  clear HSP HB bb
  have HSP := hid_of hsp'
  have HB := hid_of hb'
  clear hsp' hb'
  obtain ⟨V2, hV⟩ : ∃ V, V = c4.alloc (.cells #[.string ⟨#[104, 115, 116, 114, 108, 101, 110]⟩, .string ⟨#[104]⟩, .string ⟨#[102]⟩] 9 (0, 0)) := ⟨_, rfl⟩
  have bV : Below c4.heap.size c4 V2 := by rw [hV]; exact alb _ _
  have HQ := hid_of (HR2.out _ _ _ 1 V2 c4.heap.size (by omega) (by omega) (sp_wide HSP.out bV) (by rw [hV]; exact heap_alloc_new c4 _))
  have HW := hid_of hV
  have HbV := hid_of bV
  clear hV bV HR2
  go_wp2_with fail
  rw [← HW.out]
  refine HQ.out.mono ?_
  rintro e r2 ⟨rfl, d⟩
  obtain ⟨F12, X12, sp, B, f⟩ := aft0 HSP.out HB.out HF.out HbV.out d
  clear HSP HB HF
  have HSP := hid_of sp
  have HB := hid_of B
  have HF := hid_of f
  clear d sp B f HQ HW HbV
  go_wp2_with fail
  refine (HI.out (TA.size : Int) r2).mono ?_
  rintro e c5 ⟨rfl, bb⟩
  have hsp' := HSP.out.below bb
  have hb' := HB.out.trans (bb.mono HB.out.size)
  clear HSP HB bb
  have HSP := hid_of hsp'
  have HB := hid_of hb'
  clear hsp' hb'
  obtain ⟨V3, hV⟩ : ∃ V, V = c5.alloc (.cells #[.string ⟨#[104, 105, 110, 99, 114, 98, 121]⟩, .string ⟨#[104]⟩, .string ⟨#[102]⟩, .string TB] 9 (0, 0)) := ⟨_, rfl⟩
  have bV : Below c5.heap.size c5 V3 := by rw [hV]; exact alb _ _
  have HQ := hid_of (HR3.out _ _ _ 1 V3 c5.heap.size (by omega) (by omega) (sp_wide HSP.out bV) (HHas.out.later (HB.out.trans (bV.mono HB.out.size))) (by rw [hV]; exact heap_alloc_new c5 _))
  have HW := hid_of hV
  have HbV := hid_of bV
  clear hV bV HR3
  go_wp2_with fail
  rw [← HW.out]
  refine HQ.out.mono ?_
  rintro e r3 ⟨rfl, k3, ⟨k3a, k3b⟩, d⟩
  obtain ⟨F13, X13, sp, B, f⟩ := aft0 HSP.out HB.out HF.out HbV.out d
  clear HSP HB HF
  have HSP := hid_of sp
  have HB := hid_of B
  have HF := hid_of f
  clear d sp B f HQ HW HbV
  obtain ⟨Z, hZ⟩ : ∃ Z, Z = r3.alloc (rO 3 ⟨#[]⟩ (n + y) (.slice none 0 0)) := ⟨_, rfl⟩
  have bZ : Below r3.heap.size r3 Z := by rw [hZ]; exact alb _ _
  have xZ : Z.heap[r3.heap.size]? = some (rO 3 ⟨#[]⟩ (n + y) (.slice none 0 0)) := by rw [hZ]; exact heap_alloc_new r3 _
  have HZ := hid_of hZ
  have hsp' := HSP.out.below bZ
  have hb' := HB.out.trans (bZ.mono HB.out.size)
  clear HSP HB bZ hZ
  have HSP := hid_of hsp'
  have HB := hid_of hb'
  clear hsp' hb'
  go_wp2_with fail
  rw [← HZ.out]
  clear HZ
  obtain ⟨⟨g0, g1, g2, g3⟩, -⟩ := box4 xZ
  clear xZ
  refine (HAd.out Z).mono ?_
  rintro e w0 ⟨rfl, hw0⟩
  have hw0 := hw0.symm
  subst hw0
  clear HAd
  go_wp2_with fail
  refine (HI.out (n + y) Z).mono ?_
  rintro e c6 ⟨rfl, bb⟩
  have hsp' := HSP.out.below bb
  have hb' := HB.out.trans (bb.mono HB.out.size)
  clear HSP HB bb
  have HSP := hid_of hsp'
  have HB := hid_of hb'
  clear hsp' hb'
  clear g0 g1 g2 g3
  obtain ⟨V4, hV⟩ : ∃ V, V = c6.alloc (.cells #[.string ⟨#[104, 103, 101, 116]⟩, .string ⟨#[104]⟩, .string ⟨#[102]⟩] 9 (0, 0)) := ⟨_, rfl⟩
  have bV : Below c6.heap.size c6 V4 := by rw [hV]; exact alb _ _
  have HQ := hid_of (HR4.out _ _ _ k3 V4 c6.heap.size (by omega) (by omega) (sp_wide HSP.out bV) (by rw [hV]; exact heap_alloc_new c6 _))
  have HW := hid_of hV
  have HbV := hid_of bV
  clear hV bV HR4
  go_wp2_with fail
  rw [← HW.out]
  refine HQ.out.mono ?_
  rintro e r4 ⟨rfl, d⟩
  obtain ⟨F14, X14, sp, B, f⟩ := aft0 HSP.out HB.out HF.out HbV.out d
  clear HSP HB HF
  have HSP := hid_of sp
  have HB := hid_of B
  have HF := hid_of f
  clear d sp B f HQ HW HbV
  go_wp2_with fail
  refine (HPC.out r4).mono ?_
  rintro e c7 ⟨rfl, bb⟩
  have hsp' := HSP.out.below bb
  have hb' := HB.out.trans (bb.mono HB.out.size)
  clear HSP HB bb
  have HSP := hid_of hsp'
  have HB := hid_of hb'
  clear hsp' hb'
  obtain ⟨V5, hV⟩ : ∃ V, V = c7.alloc (.cells #[.string ⟨#[104, 105, 110, 99, 114, 98, 121]⟩, .string ⟨#[104]⟩, .string ⟨#[103]⟩, .string TB] 9 (0, 0)) := ⟨_, rfl⟩
  have bV : Below c7.heap.size c7 V5 := by rw [hV]; exact alb _ _
  have HQ := hid_of (HR5.out _ _ _ k3 V5 c7.heap.size (by omega) (by omega) (sp_wide HSP.out bV) (HHas.out.later (HB.out.trans (bV.mono HB.out.size))) (by rw [hV]; exact heap_alloc_new c7 _))
  have HW := hid_of hV
  have HbV := hid_of bV
  clear hV bV HR5
  go_wp2_with fail
  rw [← HW.out]
  refine HQ.out.mono ?_
  rintro e r5 ⟨rfl, k5, ⟨k5a, k5b⟩, d⟩
  obtain ⟨F15, X15, sp, B, f⟩ := aft0 HSP.out HB.out HF.out HbV.out d
  clear HSP HB HF
  have HSP := hid_of sp
  have HB := hid_of B
  have HF := hid_of f
  clear d sp B f HQ HW HbV
  go_wp2_with fail
  refine (HI.out y r5).mono ?_
  rintro e c8 ⟨rfl, bb⟩
  have hsp' := HSP.out.below bb
  have hb' := HB.out.trans (bb.mono HB.out.size)
  clear HSP HB bb
  have HSP := hid_of hsp'
  have HB := hid_of hb'
  clear hsp' hb'
  go_wp2_with fail
  exact bodyPost_ret (v := .bool true) (by simp [results, Tryz.results6, go_sem]) rfl ⟨rfl, HB.out⟩
set_option maxHeartbeats 8000000 in
set_option maxRecDepth 100000 in
theorem law_back (w : World) (hh : Has w) (n y : Int) (hn : InI n) (hy : InI y) (hf : fitB (n + y) = true) (h0 : y ≠ 0) (h1 : y ≠ -9223372036854775808) : Calls Tryz.prog 6 #[.int .i64 n, .int .i64 y] w fun e w' => e = .returned (.bool true) ∧ Below w.heap.size w w' := by
  have HHas := hid_of hh
  have HN := hid_of (STouch.new_call w)
  have HI := hid_of int_yes
  have HE := hid_of HLaw.isErr_yes
  have HSu := hid_of sure_call
  obtain ⟨TA, hTA⟩ : ∃ T, T = mk (itoa n) := ⟨_, rfl⟩
  obtain ⟨TB, hTB⟩ : ∃ T, T = mk (itoa y) := ⟨_, rfl⟩
  obtain ⟨TC, hTC⟩ : ∃ T, T = mk (itoa (n + y)) := ⟨_, rfl⟩
  obtain ⟨TD, hTD⟩ : ∃ T, T = mk (itoa (-y)) := ⟨_, rfl⟩
  have hsz : (TA.size : Int) = ((itoa n).length : Int) := by rw [hTA, mk_size]
  have HPA := hid_of fun (V : World) => (show Calls Tryz.prog 26 #[.int .i64 n] V fun e w' => e = .returned (.string TA) ∧ Below V.heap.size V w' from by rw [hTA]; exact RPrint.rprint_any n V hn)
  have HPB := hid_of fun (V : World) => (show Calls Tryz.prog 26 #[.int .i64 y] V fun e w' => e = .returned (.string TB) ∧ Below V.heap.size V w' from by rw [hTB]; exact RPrint.rprint_any y V hy)
  have HR0 := hid_of fun (F X : Nat → Prop) (b c : Nat) (V : World) (q : Nat) (h1 : 1 ≤ c) (hc : c ≤ 5) (h : SP F X b V (S0)) (hq : V.heap[q]? = some (.cells #[.string ⟨#[104, 115, 101, 116, 110, 120]⟩, .string ⟨#[104]⟩, .string ⟨#[102]⟩, .string TA] 9 (0, 0))) => (show Calls Tryz.prog 21 #[ptr b, .int .i64 0, .slice (some ⟨q, 0, none⟩) 4 4] V fun e w' => e = .returned (.agg #[.int .i64 3, .string ⟨#[]⟩, .int .i64 1, .slice none 0 0]) ∧ Dn F X b V w' (SS 1 (G1 (itoa n))) from r_new h (itoa_bd hn) (by rw [← hTA]; exact hq))
  have HR1 := hid_of fun (F X : Nat → Prop) (b c : Nat) (V : World) (q : Nat) (h1 : 1 ≤ c) (hc : c ≤ 5) (h : SP F X b V (SS c (G1 (itoa n)))) (hq : V.heap[q]? = some (.cells #[.string ⟨#[104, 115, 101, 116, 110, 120]⟩, .string ⟨#[104]⟩, .string ⟨#[102]⟩, .string TB] 9 (0, 0))) => (show Calls Tryz.prog 21 #[ptr b, .int .i64 0, .slice (some ⟨q, 0, none⟩) 4 4] V fun e w' => e = .returned (.agg #[.int .i64 3, .string ⟨#[]⟩, .int .i64 0, .slice none 0 0]) ∧ Dn F X b V w' (SS c (G1 (itoa n))) from r_old h h1 hc (itoa_bd hn) (itoa_bd hy) (by rw [← hTB]; exact hq))
  have HR2 := hid_of fun (F X : Nat → Prop) (b c : Nat) (V : World) (q : Nat) (h1 : 1 ≤ c) (hc : c ≤ 5) (h : SP F X b V (SS c (G1 (itoa n)))) (hq : V.heap[q]? = some (.cells #[.string ⟨#[104, 115, 116, 114, 108, 101, 110]⟩, .string ⟨#[104]⟩, .string ⟨#[102]⟩] 9 (0, 0))) => (show Calls Tryz.prog 21 #[ptr b, .int .i64 0, .slice (some ⟨q, 0, none⟩) 3 3] V fun e w' => e = .returned (.agg #[.int .i64 3, .string ⟨#[]⟩, .int .i64 (TA.size : Int), .slice none 0 0]) ∧ Dn F X b V w' (SS c (G1 (itoa n))) from by rw [hsz]; exact r_len h h1 hc (itoa_bd hn) hq)
  have hs : InI (n + y) := by have h := hf; unfold fitB at h; unfold InI; exact of_decide_eq_true h
  have HPC := hid_of fun (V : World) => (show Calls Tryz.prog 26 #[.int .i64 (n + y)] V fun e w' => e = .returned (.string TC) ∧ Below V.heap.size V w' from by rw [hTC]; exact RPrint.rprint_any (n + y) V hs)
  have HR3 := hid_of fun (F X : Nat → Prop) (b c : Nat) (V : World) (q : Nat) (h1 : 1 ≤ c) (hc : c ≤ 5) (h : SP F X b V (SS c (G1 (itoa n)))) (hh : Has V) (hq : V.heap[q]? = some (.cells #[.string ⟨#[104, 105, 110, 99, 114, 98, 121]⟩, .string ⟨#[104]⟩, .string ⟨#[102]⟩, .string TB] 9 (0, 0))) => (show Calls Tryz.prog 21 #[ptr b, .int .i64 0, .slice (some ⟨q, 0, none⟩) 4 4] V fun e w' => e = .returned (.agg #[.int .i64 3, .string ⟨#[]⟩, .int .i64 (n + y), .slice none 0 0]) ∧ ∃ c', (1 ≤ c' ∧ c' ≤ c + 1) ∧ Dn F X b V w' (SS c' (G1 (itoa (n + y)))) from r_inc h h1 hc hh hn hy hs rfl (by rw [← hTB]; exact hq))
  have HR4 := hid_of fun (F X : Nat → Prop) (b c : Nat) (V : World) (q : Nat) (h1 : 1 ≤ c) (hc : c ≤ 5) (h : SP F X b V (SS c (G1 (itoa (n + y))))) (hq : V.heap[q]? = some (.cells #[.string ⟨#[104, 103, 101, 116]⟩, .string ⟨#[104]⟩, .string ⟨#[102]⟩] 9 (0, 0))) => (show Calls Tryz.prog 21 #[ptr b, .int .i64 0, .slice (some ⟨q, 0, none⟩) 3 3] V fun e w' => e = .returned (.agg #[.int .i64 4, .string TC, .int .i64 0, .slice none 0 0]) ∧ Dn F X b V w' (SS c (G1 (itoa (n + y)))) from by rw [hTC]; exact r_get h h1 hc (itoa_bd hs) hq)
  have HR5 := hid_of fun (F X : Nat → Prop) (b c : Nat) (V : World) (q : Nat) (h1 : 1 ≤ c) (hc : c ≤ 5) (h : SP F X b V (SS c (G1 (itoa (n + y))))) (hh : Has V) (hq : V.heap[q]? = some (.cells #[.string ⟨#[104, 105, 110, 99, 114, 98, 121]⟩, .string ⟨#[104]⟩, .string ⟨#[103]⟩, .string TB] 9 (0, 0))) => (show Calls Tryz.prog 21 #[ptr b, .int .i64 0, .slice (some ⟨q, 0, none⟩) 4 4] V fun e w' => e = .returned (.agg #[.int .i64 3, .string ⟨#[]⟩, .int .i64 y, .slice none 0 0]) ∧ ∃ c', (1 ≤ c' ∧ c' ≤ c + 1) ∧ Dn F X b V w' (SS c' (G2 (itoa (n + y)) (itoa y))) from r_incg h h1 hc hh hs hy (by rw [← hTB]; exact hq))
  have hm : InI (-y) := by unfold InI at hy ⊢; omega
  have HPD := hid_of fun (V : World) => (show Calls Tryz.prog 26 #[.int .i64 (-y)] V fun e w' => e = .returned (.string TD) ∧ Below V.heap.size V w' from by rw [hTD]; exact RPrint.rprint_any (-y) V hm)
  have hwn : IntKind.i64.wrap (-y) = -y := IntWalk.i64_in _ (by unfold InI at hm; omega)
  have hyy : (y == -y) = false := by rw [beq_eq_false_iff_ne]; omega
  have HR6 := hid_of fun (F X : Nat → Prop) (b c : Nat) (V : World) (q : Nat) (h1 : 1 ≤ c) (hc : c ≤ 5) (h : SP F X b V (SS c (G2 (itoa (n + y)) (itoa y)))) (hh : Has V) (hq : V.heap[q]? = some (.cells #[.string ⟨#[104, 105, 110, 99, 114, 98, 121]⟩, .string ⟨#[104]⟩, .string ⟨#[102]⟩, .string TD] 9 (0, 0))) => (show Calls Tryz.prog 21 #[ptr b, .int .i64 0, .slice (some ⟨q, 0, none⟩) 4 4] V fun e w' => e = .returned (.agg #[.int .i64 3, .string ⟨#[]⟩, .int .i64 n, .slice none 0 0]) ∧ ∃ c', (1 ≤ c' ∧ c' ≤ c + 1) ∧ Dn F X b V w' (SS c' (G2 (itoa n) (itoa y))) from r_back h h1 hc hh (itoa_bd hy) hs hm hn (by omega) (by rw [← hTD]; exact hq))
  have F1 : ∀ V : World, (Instr.field 25 (.agg #[.int .i64 4, .string TC, .int .i64 0, .slice none 0 0]) 1).run Tryz.prog V = .ok (.string TC) V := fun V => by kernel_rfl
  have hTT : (TC.toList == TC.toList) = true := by simp
  have HAd := hid_of fun (V : World) => (show Calls Tryz.prog 27 #[.int .i64 n, .int .i64 y] V fun e w' => e = .returned (.tuple #[.int .i64 (n + y), .int .i64 0]) ∧ w' = V from by have H := RAdd.add_call n y V hn hy; rw [if_pos hf, if_pos hf] at H; exact H)
  have Hy := hid_of (And.intro hn hy)
  clear hh hTA hTB hTC hTD hsz hn hy hs
  go_enter Tryz.func6, Tryz.ntmps6
  go_wp2_with fail
  refine HN.out.mono ?_
  rintro e u0 ⟨F0, rfl, hsp, hb, hF⟩
  have HSP := hid_of (show ∃ X, SP F0 X w.heap.size u0 S0 from ⟨_, hsp⟩)
  have HB := hid_of hb
  have HF := hid_of hF
  clear hsp hb hF HN
  obtain ⟨X0, hsp⟩ := HSP.out
  clear HSP
  have HSP := hid_of hsp
  clear hsp
  clear hm
  go_wp2_with fail
  refine (HPA.out u0).mono ?_
  rintro e c1 ⟨rfl, bb⟩
  have hsp' := HSP.out.below bb
  have hb' := HB.out.trans (bb.mono HB.out.size)
  clear HSP HB bb
  have HSP := hid_of hsp'
  have HB := hid_of hb'
  clear hsp' hb'
  go_wp2_with fail
  refine (HPB.out c1).mono ?_
  rintro e c2 ⟨rfl, bb⟩
  have hsp' := HSP.out.below bb
  have hb' := HB.out.trans (bb.mono HB.out.size)
  clear HSP HB bb
  have HSP := hid_of hsp'
  have HB := hid_of hb'
  clear hsp' hb'
  obtain ⟨V0, hV⟩ : ∃ V, V = c2.alloc (.cells #[.string ⟨#[104, 115, 101, 116, 110, 120]⟩, .string ⟨#[104]⟩, .string ⟨#[102]⟩, .string TA] 9 (0, 0)) := ⟨_, rfl⟩
  have bV : Below c2.heap.size c2 V0 := by rw [hV]; exact alb _ _
  have HQ := hid_of (HR0.out _ _ _ 1 V0 c2.heap.size (by omega) (by omega) (sp_wide HSP.out bV) (by rw [hV]; exact heap_alloc_new c2 _))
  have HW := hid_of hV
  have HbV := hid_of bV
  clear hV bV HR0
  go_wp2_with fail
  rw [← HW.out]
  refine HQ.out.mono ?_
  rintro e r0 ⟨rfl, d⟩
  obtain ⟨F10, X10, sp, B, f⟩ := aft0 HSP.out HB.out HF.out HbV.out d
  clear HSP HB HF
  have HSP := hid_of sp
  have HB := hid_of B
  have HF := hid_of f
  clear d sp B f HQ HW HbV
  go_wp2_with fail
  refine (HI.out 1 r0).mono ?_
  rintro e c3 ⟨rfl, bb⟩
  have hsp' := HSP.out.below bb
  have hb' := HB.out.trans (bb.mono HB.out.size)
  clear HSP HB bb
  have HSP := hid_of hsp'
  have HB := hid_of hb'
  clear hsp' hb'
  obtain ⟨V1, hV⟩ : ∃ V, V = c3.alloc (.cells #[.string ⟨#[104, 115, 101, 116, 110, 120]⟩, .string ⟨#[104]⟩, .string ⟨#[102]⟩, .string TB] 9 (0, 0)) := ⟨_, rfl⟩
  have bV : Below c3.heap.size c3 V1 := by rw [hV]; exact alb _ _
  have HQ := hid_of (HR1.out _ _ _ 1 V1 c3.heap.size (by omega) (by omega) (sp_wide HSP.out bV) (by rw [hV]; exact heap_alloc_new c3 _))
  have HW := hid_of hV
  have HbV := hid_of bV
  clear hV bV HR1
  go_wp2_with fail
  rw [← HW.out]
  refine HQ.out.mono ?_
  rintro e r1 ⟨rfl, d⟩
  obtain ⟨F11, X11, sp, B, f⟩ := aft0 HSP.out HB.out HF.out HbV.out d
  clear HSP HB HF
  have HSP := hid_of sp
  have HB := hid_of B
  have HF := hid_of f
  clear d sp B f HQ HW HbV
  go_wp2_with fail
  refine (HI.out 0 r1).mono ?_
  rintro e c4 ⟨rfl, bb⟩
  have hsp' := HSP.out.below bb
  have hb' := HB.out.trans (bb.mono HB.out.size)
  clear HSP HB bb
  have HSP := hid_of hsp'
  have HB := hid_of hb'
  clear hsp' hb'
  obtain ⟨V2, hV⟩ : ∃ V, V = c4.alloc (.cells #[.string ⟨#[104, 115, 116, 114, 108, 101, 110]⟩, .string ⟨#[104]⟩, .string ⟨#[102]⟩] 9 (0, 0)) := ⟨_, rfl⟩
  have bV : Below c4.heap.size c4 V2 := by rw [hV]; exact alb _ _
  have HQ := hid_of (HR2.out _ _ _ 1 V2 c4.heap.size (by omega) (by omega) (sp_wide HSP.out bV) (by rw [hV]; exact heap_alloc_new c4 _))
  have HW := hid_of hV
  have HbV := hid_of bV
  clear hV bV HR2
  go_wp2_with fail
  rw [← HW.out]
  refine HQ.out.mono ?_
  rintro e r2 ⟨rfl, d⟩
  obtain ⟨F12, X12, sp, B, f⟩ := aft0 HSP.out HB.out HF.out HbV.out d
  clear HSP HB HF
  have HSP := hid_of sp
  have HB := hid_of B
  have HF := hid_of f
  clear d sp B f HQ HW HbV
  go_wp2_with fail
  refine (HI.out (TA.size : Int) r2).mono ?_
  rintro e c5 ⟨rfl, bb⟩
  have hsp' := HSP.out.below bb
  have hb' := HB.out.trans (bb.mono HB.out.size)
  clear HSP HB bb
  have HSP := hid_of hsp'
  have HB := hid_of hb'
  clear hsp' hb'
  obtain ⟨V3, hV⟩ : ∃ V, V = c5.alloc (.cells #[.string ⟨#[104, 105, 110, 99, 114, 98, 121]⟩, .string ⟨#[104]⟩, .string ⟨#[102]⟩, .string TB] 9 (0, 0)) := ⟨_, rfl⟩
  have bV : Below c5.heap.size c5 V3 := by rw [hV]; exact alb _ _
  have HQ := hid_of (HR3.out _ _ _ 1 V3 c5.heap.size (by omega) (by omega) (sp_wide HSP.out bV) (HHas.out.later (HB.out.trans (bV.mono HB.out.size))) (by rw [hV]; exact heap_alloc_new c5 _))
  have HW := hid_of hV
  have HbV := hid_of bV
  clear hV bV HR3
  go_wp2_with fail
  rw [← HW.out]
  refine HQ.out.mono ?_
  rintro e r3 ⟨rfl, k3, ⟨k3a, k3b⟩, d⟩
  obtain ⟨F13, X13, sp, B, f⟩ := aft0 HSP.out HB.out HF.out HbV.out d
  clear HSP HB HF
  have HSP := hid_of sp
  have HB := hid_of B
  have HF := hid_of f
  clear d sp B f HQ HW HbV
  obtain ⟨Z, hZ⟩ : ∃ Z, Z = r3.alloc (rO 3 ⟨#[]⟩ (n + y) (.slice none 0 0)) := ⟨_, rfl⟩
  have bZ : Below r3.heap.size r3 Z := by rw [hZ]; exact alb _ _
  have xZ : Z.heap[r3.heap.size]? = some (rO 3 ⟨#[]⟩ (n + y) (.slice none 0 0)) := by rw [hZ]; exact heap_alloc_new r3 _
  have HZ := hid_of hZ
  have hsp' := HSP.out.below bZ
  have hb' := HB.out.trans (bZ.mono HB.out.size)
  clear HSP HB bZ hZ
  have HSP := hid_of hsp'
  have HB := hid_of hb'
  clear hsp' hb'
  go_wp2_with fail
  rw [← HZ.out]
  clear HZ
  obtain ⟨⟨g0, g1, g2, g3⟩, -⟩ := box4 xZ
  clear xZ
  refine (HAd.out Z).mono ?_
  rintro e w0 ⟨rfl, hw0⟩
  have hw0 := hw0.symm
  subst hw0
  clear HAd
  go_wp2_with fail
  refine (HI.out (n + y) Z).mono ?_
  rintro e c6 ⟨rfl, bb⟩
  have hsp' := HSP.out.below bb
  have hb' := HB.out.trans (bb.mono HB.out.size)
  clear HSP HB bb
  have HSP := hid_of hsp'
  have HB := hid_of hb'
  clear hsp' hb'
  clear g0 g1 g2 g3
  obtain ⟨V4, hV⟩ : ∃ V, V = c6.alloc (.cells #[.string ⟨#[104, 103, 101, 116]⟩, .string ⟨#[104]⟩, .string ⟨#[102]⟩] 9 (0, 0)) := ⟨_, rfl⟩
  have bV : Below c6.heap.size c6 V4 := by rw [hV]; exact alb _ _
  have HQ := hid_of (HR4.out _ _ _ k3 V4 c6.heap.size (by omega) (by omega) (sp_wide HSP.out bV) (by rw [hV]; exact heap_alloc_new c6 _))
  have HW := hid_of hV
  have HbV := hid_of bV
  clear hV bV HR4
  go_wp2_with fail
  rw [← HW.out]
  refine HQ.out.mono ?_
  rintro e r4 ⟨rfl, d⟩
  obtain ⟨F14, X14, sp, B, f⟩ := aft0 HSP.out HB.out HF.out HbV.out d
  clear HSP HB HF
  have HSP := hid_of sp
  have HB := hid_of B
  have HF := hid_of f
  clear d sp B f HQ HW HbV
  go_wp2_with fail
  refine (HPC.out r4).mono ?_
  rintro e c7 ⟨rfl, bb⟩
  have hsp' := HSP.out.below bb
  have hb' := HB.out.trans (bb.mono HB.out.size)
  clear HSP HB bb
  have HSP := hid_of hsp'
  have HB := hid_of hb'
  clear hsp' hb'
  obtain ⟨V5, hV⟩ : ∃ V, V = c7.alloc (.cells #[.string ⟨#[104, 105, 110, 99, 114, 98, 121]⟩, .string ⟨#[104]⟩, .string ⟨#[103]⟩, .string TB] 9 (0, 0)) := ⟨_, rfl⟩
  have bV : Below c7.heap.size c7 V5 := by rw [hV]; exact alb _ _
  have HQ := hid_of (HR5.out _ _ _ k3 V5 c7.heap.size (by omega) (by omega) (sp_wide HSP.out bV) (HHas.out.later (HB.out.trans (bV.mono HB.out.size))) (by rw [hV]; exact heap_alloc_new c7 _))
  have HW := hid_of hV
  have HbV := hid_of bV
  clear hV bV HR5
  go_wp2_with fail
  rw [← HW.out]
  refine HQ.out.mono ?_
  rintro e r5 ⟨rfl, k5, ⟨k5a, k5b⟩, d⟩
  obtain ⟨F15, X15, sp, B, f⟩ := aft0 HSP.out HB.out HF.out HbV.out d
  clear HSP HB HF
  have HSP := hid_of sp
  have HB := hid_of B
  have HF := hid_of f
  clear d sp B f HQ HW HbV
  go_wp2_with fail
  refine (HI.out y r5).mono ?_
  rintro e c8 ⟨rfl, bb⟩
  have hsp' := HSP.out.below bb
  have hb' := HB.out.trans (bb.mono HB.out.size)
  clear HSP HB bb
  have HSP := hid_of hsp'
  have HB := hid_of hb'
  clear hsp' hb'
  go_wp2_with fail
  refine (HPD.out c8).mono ?_
  rintro e c9 ⟨rfl, bb⟩
  have hsp' := HSP.out.below bb
  have hb' := HB.out.trans (bb.mono HB.out.size)
  clear HSP HB bb
  have HSP := hid_of hsp'
  have HB := hid_of hb'
  clear hsp' hb'
  obtain ⟨V6, hV⟩ : ∃ V, V = c9.alloc (.cells #[.string ⟨#[104, 105, 110, 99, 114, 98, 121]⟩, .string ⟨#[104]⟩, .string ⟨#[102]⟩, .string TD] 9 (0, 0)) := ⟨_, rfl⟩
  have bV : Below c9.heap.size c9 V6 := by rw [hV]; exact alb _ _
  have HQ := hid_of (HR6.out _ _ _ k5 V6 c9.heap.size (by omega) (by omega) (sp_wide HSP.out bV) (HHas.out.later (HB.out.trans (bV.mono HB.out.size))) (by rw [hV]; exact heap_alloc_new c9 _))
  have HW := hid_of hV
  have HbV := hid_of bV
  clear hV bV HR6
  go_wp2_with fail
  rw [← HW.out]
  refine HQ.out.mono ?_
  rintro e r6 ⟨rfl, k6, ⟨k6a, k6b⟩, d⟩
  obtain ⟨F16, X16, sp, B, f⟩ := aft0 HSP.out HB.out HF.out HbV.out d
  clear HSP HB HF
  have HSP := hid_of sp
  have HB := hid_of B
  have HF := hid_of f
  clear d sp B f HQ HW HbV
  go_wp2_with fail
  refine (HI.out n r6).mono ?_
  rintro e c10 ⟨rfl, bb⟩
  have hsp' := HSP.out.below bb
  have hb' := HB.out.trans (bb.mono HB.out.size)
  clear HSP HB bb
  have HSP := hid_of hsp'
  have HB := hid_of hb'
  clear hsp' hb'
  go_wp2_with fail
  refine (HSu.out c10 (HHas.out.later HB.out)).mono ?_
  rintro e c11 ⟨rfl, bb⟩
  have hsp' := HSP.out.below bb
  have hb' := HB.out.trans (bb.mono HB.out.size)
  clear HSP HB bb
  have HSP := hid_of hsp'
  have HB := hid_of hb'
  clear hsp' hb'
  go_wp2_with fail
  exact bodyPost_ret (v := .bool true) (by simp [results, Tryz.results6, go_sem]) rfl ⟨rfl, HB.out⟩
theorem wf_i64 {n : Int} (h : (Lit.int .i64 n).wf = true) : InI n := by
  unfold InI
  simp [Lit.wf, IntKind.min, IntKind.max, IntKind.signed, IntKind.bits] at h
  omega
theorem law_call (w : World) (hh : Has w) (n : Int) (kn : (Lit.int .i64 n).wf = true) (y : Int) (ky : (Lit.int .i64 y).wf = true) : Calls Tryz.prog 6 #[.int .i64 n, .int .i64 y] w fun e w' => e = .returned (.bool true) ∧ Below w.heap.size w w' := by
  have hn := wf_i64 kn
  have hy := wf_i64 ky
  cases hf : fitB (n + y) with
  | false => exact law_over w hh n y hn hy hf
  | true =>
    by_cases h0 : y = 0
    · exact law_same w hh n y hn hy hf (.inl h0)
    · by_cases h1 : y = -9223372036854775808
      · exact law_same w hh n y hn hy hf (.inr h1)
      · exact law_back w hh n y hn hy hf h0 h1
end Go.Proofs.YtcgdnpcegcmboaaGreatDoor.HIncl
