/- What must come whatever the input is (law18). -/
import Derived.Test.YtminfpkigenahaaGreatDoorKLenM
import Derived.Test.YtminfpkigenahaaGreatDoorSTouchM
namespace Go.Proofs.YtminfpkigenahaaGreatDoor.KSure
open Go.RowKit Go.Maps
open Go.Proofs.YtminfpkigenahaaGreatDoor.SpaceMath (wout withL lkp keys Ris toD)
open Go.Proofs.YtminfpkigenahaaGreatDoor.ValueMath (Vl chk small)
open Go.Proofs.YtminfpkigenahaaGreatDoor.Base (mk mk_list mk_size Gr hid_of SL)
open Go.Proofs.YtminfpkigenahaaGreatDoor.Turn
open Go.Proofs.YtminfpkigenahaaGreatDoor.Vals
open Go.Proofs.YtminfpkigenahaaGreatDoor.SBase
open Go.Proofs.YtminfpkigenahaaGreatDoor.SFind
open Go.Proofs.YtminfpkigenahaaGreatDoor.QBase
open Go.Proofs.YtminfpkigenahaaGreatDoor.KCmd
open Go.Proofs.YtminfpkigenahaaGreatDoor.KRow (RR)
open Go.Proofs.YtminfpkigenahaaGreatDoor.KMatch (rpL)
open Go.Proofs.YtminfpkigenahaaGreatDoor.KReq
open Go.Proofs.YtminfpkigenahaaGreatDoor.Parse (Has)
set_option linter.unusedVariables false
set_option linter.unusedSimpArgs false
theorem int_yes (m : Int) (w : World) : Calls Tryz.prog 7 #[rp 3 ⟨#[]⟩ m, .int .i64 m] w fun e w' => e = .returned (.bool true) ∧ Below w.heap.size w w' := by
  refine (KLaw.isInt_call 3 m m ⟨#[]⟩ w).mono ?_
  rintro e w' ⟨rfl, b⟩
  exact ⟨by simp, b⟩
/-- a request that is done beside a space of the law's own: the space behind it -/
theorem aft0 {F X : Nat → Prop} {b : Nat} {w0 W V w3 : World} {S S' : Sp} (h0 : SP F X b W S) (lo : Below w0.heap.size w0 W) (hi : ∀ k, F k → w0.heap.size ≤ k) (hb : Below W.heap.size W V)
    (h : Dn F (fun k => X k ∨ KCmd.Tmp W V k) b V w3 S') : ∃ F' X', SP F' X' b w3 S' ∧ Below w0.heap.size w0 w3 ∧ ∀ k, F' k → w0.heap.size ≤ k := by
  obtain ⟨F', s, ev, n⟩ := dn_tmp h0 hb h (Ev.refl _ _)
  exact ⟨F', _, s, lo.trans (ev.below lo.size hi), fun k q => (n k q).elim (hi k) (Nat.le_trans lo.size)⟩
theorem aft1 {F X : Nat → Prop} {b : Nat} {w0 W w3 : World} {S S' : Sp} (lo : Below w0.heap.size w0 W) (hi : ∀ k, F k → w0.heap.size ≤ k)
    (h : Dn F X b W w3 S') : ∃ F' X', SP F' X' b w3 S' ∧ Below w0.heap.size w0 w3 ∧ ∀ k, F' k → w0.heap.size ≤ k := by
  obtain ⟨F', s, ev, n⟩ := h
  exact ⟨F', _, s, lo.trans (ev.below lo.size hi), fun k q => (n k q).elim (hi k) (Nat.le_trans lo.size)⟩
theorem not_new {F X : Nat → Prop} {b : Nat} {w : World} {S : Sp} (h : SP F X b w S) : ¬ F w.heap.size := fun q => by
  obtain ⟨FI, bm, bi, mv, L, s, h⟩ := h
  exact absurd (h.lo _ q) (Nat.lt_irrefl _)
set_option maxRecDepth 100000 in
set_option maxHeartbeats 16000000 in
theorem sure_call (w : World) (hh : Has w) : Calls Tryz.prog 9 #[] w fun e w' => e = .returned (.bool true) ∧ Below w.heap.size w w' := by
  have HHas := hid_of hh
  have HN := hid_of (STouch.new_call w)
  have HI := hid_of int_yes
  have HE := hid_of KLaw.isErr_yes
  have HT := hid_of fun (V : World) => text_call ⟨#[49]⟩ V
  have HPu := hid_of fun (F X : Nat → Prop) (b : Nat) (V : World) (h : SP F X b V S0) => put_a h
  have HNN := hid_of fun (F X : Nat → Prop) (b : Nat) (V : World) (S : Sp) (h : SP F X b V S) => not_new h
  have F1 : ∀ V : World, (Instr.field 35 (.agg #[.int .i64 1, .string ⟨#[79, 75]⟩, .int .i64 0, .slice none 0 0]) 1).run Tryz.prog V = .ok (.string ⟨#[79, 75]⟩) V := fun V => by kernel_rfl
  have F2 : ∀ V : World, (Instr.field 35 (.agg #[.int .i64 1, .string ⟨#[80, 79, 78, 71]⟩, .int .i64 0, .slice none 0 0]) 1).run Tryz.prog V = .ok (.string ⟨#[80, 79, 78, 71]⟩) V := fun V => by kernel_rfl
  have HR0 := hid_of fun (F X : Nat → Prop) (b : Nat) (V : World) (q : Nat) (h : SP F X b V S1) (hh : Has V) (hq : V.heap[q]? = some (.cells #[.string ⟨#[69, 88, 80, 73, 82, 69]⟩, .string ⟨#[97]⟩, .string ⟨#[50]⟩] 9 (0, 0))) => req0 h hh hq
  have HR1 := hid_of fun (F X : Nat → Prop) (b : Nat) (V : World) (q : Nat) (h : SP F X b V S2) (hq : V.heap[q]? = some (.cells #[.string ⟨#[116, 116, 108]⟩, .string ⟨#[97]⟩] 9 (0, 0))) => req1 h hq
  have HR2 := hid_of fun (F X : Nat → Prop) (b : Nat) (V : World) (q : Nat) (h : SP F X b V S2) (hh : Has V) (hq : V.heap[q]? = some (.cells #[.string ⟨#[101, 120, 112, 105, 114, 101]⟩, .string ⟨#[97]⟩, .string ⟨#[120]⟩] 9 (0, 0))) => req2 h hh hq
  have HR3 := hid_of fun (F X : Nat → Prop) (b : Nat) (V : World) (q : Nat) (h : SP F X b V S2) (hq : V.heap[q]? = some (.cells #[.string ⟨#[114, 101, 110, 97, 109, 101]⟩, .string ⟨#[113]⟩, .string ⟨#[97]⟩] 9 (0, 0))) => req3 h hq
  have HR4 := hid_of fun (F X : Nat → Prop) (b : Nat) (V : World) (q : Nat) (h : SP F X b V S2) (hq : V.heap[q]? = some (.cells #[.string ⟨#[114, 101, 110, 97, 109, 101]⟩, .string ⟨#[97]⟩, .string ⟨#[98]⟩] 9 (0, 0))) => (show Calls Tryz.prog 8 #[ptr b, .int .i64 0, .slice (some ⟨q, 0, none⟩) 3 3] V fun e w' => e = .returned (.agg #[.int .i64 1, .string ⟨#[79, 75]⟩, .int .i64 0, .slice none 0 0]) ∧ Dn F X b V w' S3 from req4 h hq)
  have HR5 := hid_of fun (F X : Nat → Prop) (b : Nat) (V : World) (q : Nat) (h : SP F X b V S3) (hq : V.heap[q]? = some (.cells #[.string ⟨#[101, 120, 105, 115, 116, 115]⟩, .string ⟨#[98]⟩, .string ⟨#[98]⟩, .string ⟨#[113]⟩] 9 (0, 0))) => req5 h hq
  have HR6 := hid_of fun (F X : Nat → Prop) (b : Nat) (V : World) (q : Nat) (h : SP F X b V S3) (hq : V.heap[q]? = some (.cells #[.string ⟨#[115, 99, 97, 110]⟩, .string ⟨#[49]⟩] 9 (0, 0))) => req6 h hq
  have HR7 := hid_of fun (F X : Nat → Prop) (b : Nat) (V : World) (q : Nat) (h : SP F X b V S3) (hq : V.heap[q]? = some (.cells #[.string ⟨#[112, 105, 110, 103]⟩] 9 (0, 0))) => (show Calls Tryz.prog 8 #[ptr b, .int .i64 0, .slice (some ⟨q, 0, none⟩) 1 1] V fun e w' => e = .returned (.agg #[.int .i64 1, .string ⟨#[80, 79, 78, 71]⟩, .int .i64 0, .slice none 0 0]) ∧ Dn F X b V w' S3 from req7 h hq)
  have HR8 := hid_of fun (F X : Nat → Prop) (b : Nat) (V : World) (q : Nat) (h : SP F X b V S3) (hq : V.heap[q]? = some (.cells #[.string ⟨#[107, 101, 121, 115]⟩, .string ⟨#[42]⟩] 9 (0, 0))) => req8 h hq
  have HR9 := hid_of fun (F X : Nat → Prop) (b : Nat) (V : World) (q : Nat) (h : SP F X b V S3) (hq : V.heap[q]? = some (.cells #[.string ⟨#[100, 117, 109, 112]⟩, .string ⟨#[98]⟩] 9 (0, 0))) => req9 h hq
  have HR10 := hid_of fun (F X : Nat → Prop) (b : Nat) (V : World) (q : Nat) (h : SP F X b V S3) (hq : V.heap[q]? = some (.cells #[.string ⟨#[100, 98, 115, 105, 122, 101]⟩] 9 (0, 0))) => req10 h hq
  have HR11 := hid_of fun (F X : Nat → Prop) (b : Nat) (V : World) (q : Nat) (h : SP F X b V S3) (hF : ¬ F q) (hq : V.heap[q]? = some (.cells #[.string ⟨#[100, 101, 108]⟩, .string ⟨#[98]⟩, .string ⟨#[98]⟩] 9 (0, 0))) => req11 h hF hq
  clear hh
  go_enter Tryz.func9, Tryz.ntmps9
  go_wp2_with fail
  refine HN.out.mono ?_
  rintro e u0 ⟨F0, rfl, hsp, hb, hF⟩
  have HSP := hid_of (show ∃ X, SP F0 X w.heap.size u0 S0 from ⟨_, hsp⟩)
  have HB := hid_of hb
  have HF := hid_of hF
  clear hsp hb hF HN
  obtain ⟨X0, hsp⟩ := HSP.out
  clear HSP
  have HSP := hid_of hsp
  clear hsp
  go_wp2_with fail
  refine (HT.out u0).mono ?_
  rintro e c1 ⟨rfl, bb⟩
  have hsp' := HSP.out.below bb
  have hb' := HB.out.trans (bb.mono HB.out.size)
  clear HSP HB bb
  have HSP := hid_of hsp'
  have HB := hid_of hb'
  clear hsp' hb'
  go_wp2_with fail
  refine (HPu.out _ _ _ _ HSP.out).mono ?_
  rintro e p0 ⟨rfl, d⟩
  obtain ⟨F1', X1', sp, B, f⟩ := aft1 (S := S0) HB.out HF.out d
  clear HSP HB HF HPu HT
  have HSP := hid_of sp
  have HB := hid_of B
  have HF := hid_of f
  clear d sp B f
  -- request 0: EXPIRE a 2
  obtain ⟨V0, hV⟩ : ∃ V, V = p0.alloc (.cells #[.string ⟨#[69, 88, 80, 73, 82, 69]⟩, .string ⟨#[97]⟩, .string ⟨#[50]⟩] 9) := ⟨_, rfl⟩
  have bV : Below p0.heap.size p0 V0 := by rw [hV]; exact alb _ _
  have HQ := hid_of (HR0.out _ _ _ V0 p0.heap.size (sp_wide HSP.out bV) (HHas.out.later (HB.out.trans (bV.mono HB.out.size))) (by rw [hV]; exact heap_alloc_new p0 _))
  have HW := hid_of hV
  have HbV := hid_of bV
  clear hV bV HR0
  go_wp2_with fail
  rw [← HW.out]
  refine HQ.out.mono ?_
  rintro e u1 ⟨rfl, d⟩
  obtain ⟨F11, X11, sp, B, f⟩ := aft0 HSP.out HB.out HF.out HbV.out d
  clear HSP HB HF
  have HSP := hid_of sp
  have HB := hid_of B
  have HF := hid_of f
  clear d sp B f HQ HW HbV
  go_wp2_with fail
  refine (HI.out 1 u1).mono ?_
  rintro e c2 ⟨rfl, bb⟩
  have hsp' := HSP.out.below bb
  have hb' := HB.out.trans (bb.mono HB.out.size)
  clear HSP HB bb
  have HSP := hid_of hsp'
  have HB := hid_of hb'
  clear hsp' hb'
  -- request 1: ttl a
  obtain ⟨V1, hV⟩ : ∃ V, V = c2.alloc (.cells #[.string ⟨#[116, 116, 108]⟩, .string ⟨#[97]⟩] 9) := ⟨_, rfl⟩
  have bV : Below c2.heap.size c2 V1 := by rw [hV]; exact alb _ _
  have HQ := hid_of (HR1.out _ _ _ V1 c2.heap.size (sp_wide HSP.out bV) (by rw [hV]; exact heap_alloc_new c2 _))
  have HW := hid_of hV
  have HbV := hid_of bV
  clear hV bV HR1
  go_wp2_with fail
  rw [← HW.out]
  refine HQ.out.mono ?_
  rintro e u2 ⟨rfl, d⟩
  obtain ⟨F12, X12, sp, B, f⟩ := aft0 HSP.out HB.out HF.out HbV.out d
  clear HSP HB HF
  have HSP := hid_of sp
  have HB := hid_of B
  have HF := hid_of f
  clear d sp B f HQ HW HbV
  go_wp2_with fail
  refine (HI.out 2 u2).mono ?_
  rintro e c3 ⟨rfl, bb⟩
  have hsp' := HSP.out.below bb
  have hb' := HB.out.trans (bb.mono HB.out.size)
  clear HSP HB bb
  have HSP := hid_of hsp'
  have HB := hid_of hb'
  clear hsp' hb'
  -- request 2: expire a x
  obtain ⟨V2, hV⟩ : ∃ V, V = c3.alloc (.cells #[.string ⟨#[101, 120, 112, 105, 114, 101]⟩, .string ⟨#[97]⟩, .string ⟨#[120]⟩] 9) := ⟨_, rfl⟩
  have bV : Below c3.heap.size c3 V2 := by rw [hV]; exact alb _ _
  have HQ := hid_of (HR2.out _ _ _ V2 c3.heap.size (sp_wide HSP.out bV) (HHas.out.later (HB.out.trans (bV.mono HB.out.size))) (by rw [hV]; exact heap_alloc_new c3 _))
  have HW := hid_of hV
  have HbV := hid_of bV
  clear hV bV HR2
  go_wp2_with fail
  rw [← HW.out]
  refine HQ.out.mono ?_
  rintro e u3 ⟨rfl, d⟩
  obtain ⟨F13, X13, sp, B, f⟩ := aft0 HSP.out HB.out HF.out HbV.out d
  clear HSP HB HF
  have HSP := hid_of sp
  have HB := hid_of B
  have HF := hid_of f
  clear d sp B f HQ HW HbV
  go_wp2_with fail
  refine (HE.out numB 0 u3).mono ?_
  rintro e c4 ⟨rfl, bb⟩
  have hsp' := HSP.out.below bb
  have hb' := HB.out.trans (bb.mono HB.out.size)
  clear HSP HB bb
  have HSP := hid_of hsp'
  have HB := hid_of hb'
  clear hsp' hb'
  -- request 3: rename q a
  obtain ⟨V3, hV⟩ : ∃ V, V = c4.alloc (.cells #[.string ⟨#[114, 101, 110, 97, 109, 101]⟩, .string ⟨#[113]⟩, .string ⟨#[97]⟩] 9) := ⟨_, rfl⟩
  have bV : Below c4.heap.size c4 V3 := by rw [hV]; exact alb _ _
  have HQ := hid_of (HR3.out _ _ _ V3 c4.heap.size (sp_wide HSP.out bV) (by rw [hV]; exact heap_alloc_new c4 _))
  have HW := hid_of hV
  have HbV := hid_of bV
  clear hV bV HR3
  go_wp2_with fail
  rw [← HW.out]
  refine HQ.out.mono ?_
  rintro e u4 ⟨rfl, d⟩
  obtain ⟨F14, X14, sp, B, f⟩ := aft0 HSP.out HB.out HF.out HbV.out d
  clear HSP HB HF
  have HSP := hid_of sp
  have HB := hid_of B
  have HF := hid_of f
  clear d sp B f HQ HW HbV
  go_wp2_with fail
  refine (HE.out nokB 0 u4).mono ?_
  rintro e c5 ⟨rfl, bb⟩
  have hsp' := HSP.out.below bb
  have hb' := HB.out.trans (bb.mono HB.out.size)
  clear HSP HB bb
  have HSP := hid_of hsp'
  have HB := hid_of hb'
  clear hsp' hb'
  -- request 4: rename a b
  obtain ⟨V4, hV⟩ : ∃ V, V = c5.alloc (.cells #[.string ⟨#[114, 101, 110, 97, 109, 101]⟩, .string ⟨#[97]⟩, .string ⟨#[98]⟩] 9) := ⟨_, rfl⟩
  have bV : Below c5.heap.size c5 V4 := by rw [hV]; exact alb _ _
  have HQ := hid_of (HR4.out _ _ _ V4 c5.heap.size (sp_wide HSP.out bV) (by rw [hV]; exact heap_alloc_new c5 _))
  have HW := hid_of hV
  have HbV := hid_of bV
  clear hV bV HR4
  go_wp2_with fail
  rw [← HW.out]
  refine HQ.out.mono ?_
  rintro e u5 ⟨rfl, d⟩
  obtain ⟨F15, X15, sp, B, f⟩ := aft0 HSP.out HB.out HF.out HbV.out d
  clear HSP HB HF
  have HSP := hid_of sp
  have HB := hid_of B
  have HF := hid_of f
  clear d sp B f HQ HW HbV
  -- request 5: exists b b q
  obtain ⟨V5, hV⟩ : ∃ V, V = u5.alloc (.cells #[.string ⟨#[101, 120, 105, 115, 116, 115]⟩, .string ⟨#[98]⟩, .string ⟨#[98]⟩, .string ⟨#[113]⟩] 9) := ⟨_, rfl⟩
  have bV : Below u5.heap.size u5 V5 := by rw [hV]; exact alb _ _
  have HQ := hid_of (HR5.out _ _ _ V5 u5.heap.size (sp_wide HSP.out bV) (by rw [hV]; exact heap_alloc_new u5 _))
  have HW := hid_of hV
  have HbV := hid_of bV
  clear hV bV HR5
  go_wp2_with fail
  rw [← HW.out]
  refine HQ.out.mono ?_
  rintro e u6 ⟨rfl, d⟩
  obtain ⟨F16, X16, sp, B, f⟩ := aft0 HSP.out HB.out HF.out HbV.out d
  clear HSP HB HF
  have HSP := hid_of sp
  have HB := hid_of B
  have HF := hid_of f
  clear d sp B f HQ HW HbV
  go_wp2_with fail
  refine (HI.out 2 u6).mono ?_
  rintro e c6 ⟨rfl, bb⟩
  have hsp' := HSP.out.below bb
  have hb' := HB.out.trans (bb.mono HB.out.size)
  clear HSP HB bb
  have HSP := hid_of hsp'
  have HB := hid_of hb'
  clear hsp' hb'
  -- request 6: scan 1
  obtain ⟨V6, hV⟩ : ∃ V, V = c6.alloc (.cells #[.string ⟨#[115, 99, 97, 110]⟩, .string ⟨#[49]⟩] 9) := ⟨_, rfl⟩
  have bV : Below c6.heap.size c6 V6 := by rw [hV]; exact alb _ _
  have HQ := hid_of (HR6.out _ _ _ V6 c6.heap.size (sp_wide HSP.out bV) (by rw [hV]; exact heap_alloc_new c6 _))
  have HW := hid_of hV
  have HbV := hid_of bV
  clear hV bV HR6
  go_wp2_with fail
  rw [← HW.out]
  refine HQ.out.mono ?_
  rintro e u7 ⟨rfl, d⟩
  obtain ⟨F17, X17, sp, B, f⟩ := aft0 HSP.out HB.out HF.out HbV.out d
  clear HSP HB HF
  have HSP := hid_of sp
  have HB := hid_of B
  have HF := hid_of f
  clear d sp B f HQ HW HbV
  go_wp2_with fail
  refine (HE.out curB 0 u7).mono ?_
  rintro e c7 ⟨rfl, bb⟩
  have hsp' := HSP.out.below bb
  have hb' := HB.out.trans (bb.mono HB.out.size)
  clear HSP HB bb
  have HSP := hid_of hsp'
  have HB := hid_of hb'
  clear hsp' hb'
  -- request 7: ping
  obtain ⟨V7, hV⟩ : ∃ V, V = c7.alloc (.cells #[.string ⟨#[112, 105, 110, 103]⟩] 9) := ⟨_, rfl⟩
  have bV : Below c7.heap.size c7 V7 := by rw [hV]; exact alb _ _
  have HQ := hid_of (HR7.out _ _ _ V7 c7.heap.size (sp_wide HSP.out bV) (by rw [hV]; exact heap_alloc_new c7 _))
  have HW := hid_of hV
  have HbV := hid_of bV
  clear hV bV HR7
  go_wp2_with fail
  rw [← HW.out]
  refine HQ.out.mono ?_
  rintro e u8 ⟨rfl, d⟩
  obtain ⟨F18, X18, sp, B, f⟩ := aft0 HSP.out HB.out HF.out HbV.out d
  clear HSP HB HF
  have HSP := hid_of sp
  have HB := hid_of B
  have HF := hid_of f
  clear d sp B f HQ HW HbV
  -- request 8: keys *
  obtain ⟨V8, hV⟩ : ∃ V, V = u8.alloc (.cells #[.string ⟨#[107, 101, 121, 115]⟩, .string ⟨#[42]⟩] 9) := ⟨_, rfl⟩
  have bV : Below u8.heap.size u8 V8 := by rw [hV]; exact alb _ _
  have HQ := hid_of (HR8.out _ _ _ V8 u8.heap.size (sp_wide HSP.out bV) (by rw [hV]; exact heap_alloc_new u8 _))
  have HW := hid_of hV
  have HbV := hid_of bV
  clear hV bV HR8
  go_wp2_with fail
  rw [← HW.out]
  refine HQ.out.mono ?_
  rintro e u9 ⟨v, rfl, rr, d⟩
  obtain ⟨F19, X19, sp, B, f⟩ := aft0 HSP.out HB.out HF.out HbV.out d
  clear HSP HB HF
  have HSP := hid_of sp
  have HB := hid_of B
  have HF := hid_of f
  clear d sp B f HQ HW HbV
  obtain ⟨ak, ck, rfl, hat⟩ := KLaw2.rr_at rr
  obtain ⟨gk, rfl, hgk, -, hk1, -, -⟩ := hat 0 (by decide)
  clear hat rr
  obtain ⟨BK, hV⟩ : ∃ V, V = u9.alloc (rO 6 ⟨#[]⟩ 0 (.slice (some ⟨gk, 0, none⟩) 1 ck)) := ⟨_, rfl⟩
  have bV : Below u9.heap.size u9 BK := by rw [hV]; exact alb _ _
  have HK := hid_of (show BK.heap[u9.heap.size]? = some (rO 6 ⟨#[]⟩ 0 (.slice (some ⟨gk, 0, none⟩) 1 ck)) by rw [hV]; exact heap_alloc_new u9 _)
  have HGk := hid_of (show BK.cell? ⟨gk, 1, none⟩ = some (.string ⟨#[98]⟩) from (bV.cell (p := ⟨gk, 1, none⟩) hgk).trans (by have h := hk1; rw [Nat.zero_mul, Nat.zero_add] at h; exact h))
  clear hgk hk1
  have hsp' := HSP.out.below bV
  have hb' := HB.out.trans (bV.mono HB.out.size)
  have HWK := hid_of hV
  clear HSP HB bV hV
  have HSP := hid_of hsp'
  have HB := hid_of hb'
  clear hsp' hb'
  -- request 9: dump b
  obtain ⟨V9, hV⟩ : ∃ V, V = BK.alloc (.cells #[.string ⟨#[100, 117, 109, 112]⟩, .string ⟨#[98]⟩] 9) := ⟨_, rfl⟩
  have bV : Below BK.heap.size BK V9 := by rw [hV]; exact alb _ _
  have HQ := hid_of (HR9.out _ _ _ V9 BK.heap.size (sp_wide HSP.out bV) (by rw [hV]; exact heap_alloc_new BK _))
  have HW := hid_of hV
  have HbV := hid_of bV
  clear hV bV HR9
  have sz : BK.heap.size = u9.heap.size + 1 := by rw [HWK.out]; simp
  rw [sz] at HQ
  go_wp2_with fail
  rw [← HWK.out]
  rw [← HW.out]
  refine HQ.out.mono ?_
  rintro e u10 ⟨rfl, bD, d⟩
  have HK2 := hid_of (show u10.heap[u9.heap.size]? = some (rO 6 ⟨#[]⟩ 0 (.slice (some ⟨gk, 0, none⟩) 1 ck)) from (bD.block _ (lt_of ((HbV.out.block _ (lt_of HK.out)).trans HK.out))).trans ((HbV.out.block _ (lt_of HK.out)).trans HK.out))
  have HG2 := hid_of ((bD.cell (p := ⟨gk, 1, none⟩) (Nat.lt_of_lt_of_le (Base.cell_lt HGk.out) HbV.out.size)).trans ((HbV.out.cell (p := ⟨gk, 1, none⟩) (Base.cell_lt HGk.out)).trans HGk.out))
  clear bD HK HGk
  obtain ⟨F20, X20, sp, B, f⟩ := aft0 HSP.out HB.out HF.out HbV.out d
  clear HSP HB HF
  have HSP := hid_of sp
  have HB := hid_of B
  have HF := hid_of f
  clear d sp B f HQ HW HbV
  obtain ⟨BD, hV⟩ : ∃ V, V = u10.alloc (rO 4 ⟨#[1, 1, 0, 0, 0, 49]⟩ 0 (.slice none 0 0)) := ⟨_, rfl⟩
  have bV : Below u10.heap.size u10 BD := by rw [hV]; exact alb _ _
  have HDc := hid_of (show BD.heap[u10.heap.size]? = some (rO 4 ⟨#[1, 1, 0, 0, 0, 49]⟩ 0 (.slice none 0 0)) by rw [hV]; exact heap_alloc_new u10 _)
  have HK3 := hid_of ((bV.block _ (lt_of HK2.out)).trans HK2.out)
  have HG3 := hid_of ((bV.cell (p := ⟨gk, 1, none⟩) (Base.cell_lt HG2.out)).trans HG2.out)
  obtain ⟨⟨-, -, -, kc3⟩, -⟩ := box4 HK3.out
  obtain ⟨⟨-, dc1, -, -⟩, -⟩ := box4 HDc.out
  have gc1 := HG3.out
  rw [hV] at kc3 dc1 gc1
  have kl3 : u9.heap.size < u10.heap.size := lt_of HK2.out
  have gl1 : gk < u10.heap.size := Base.cell_lt HG2.out
  clear HK2 HG2 HK3 HG3 HDc
  have hsp' := HSP.out.below bV
  have hb' := HB.out.trans (bV.mono HB.out.size)
  have HWD := hid_of hV
  clear HSP HB bV hV
  have HSP := hid_of hsp'
  have HB := hid_of hb'
  clear hsp' hb'
  -- request 10: dbsize
  obtain ⟨V10, hV⟩ : ∃ V, V = BD.alloc (.cells #[.string ⟨#[100, 98, 115, 105, 122, 101]⟩] 9) := ⟨_, rfl⟩
  have bV : Below BD.heap.size BD V10 := by rw [hV]; exact alb _ _
  have HQ := hid_of (HR10.out _ _ _ V10 BD.heap.size (sp_wide HSP.out bV) (by rw [hV]; exact heap_alloc_new BD _))
  have HW := hid_of hV
  have HbV := hid_of bV
  clear hV bV HR10
  have sz : BD.heap.size = u10.heap.size + 1 := by rw [HWD.out]; simp
  rw [sz] at HQ
  go_wp2_with fail
  rw [← HWD.out]
  rw [← HW.out]
  refine HQ.out.mono ?_
  rintro e u11 ⟨rfl, d⟩
  obtain ⟨F21, X21, sp, B, f⟩ := aft0 HSP.out HB.out HF.out HbV.out d
  clear HSP HB HF
  have HSP := hid_of sp
  have HB := hid_of B
  have HF := hid_of f
  clear d sp B f HQ HW HbV
  go_wp2_with fail
  refine (HI.out 0 u11).mono ?_
  rintro e c8 ⟨rfl, bb⟩
  have hsp' := HSP.out.below bb
  have hb' := HB.out.trans (bb.mono HB.out.size)
  clear HSP HB bb
  have HSP := hid_of hsp'
  have HB := hid_of hb'
  clear hsp' hb'
  -- request 11: del b b
  obtain ⟨V11, hV⟩ : ∃ V, V = c8.alloc (.cells #[.string ⟨#[100, 101, 108]⟩, .string ⟨#[98]⟩, .string ⟨#[98]⟩] 9) := ⟨_, rfl⟩
  have bV : Below c8.heap.size c8 V11 := by rw [hV]; exact alb _ _
  have HQ := hid_of (HR11.out _ _ _ V11 c8.heap.size (sp_wide HSP.out bV) (HNN.out _ _ _ _ _ HSP.out) (by rw [hV]; exact heap_alloc_new c8 _))
  have HW := hid_of hV
  have HbV := hid_of bV
  clear hV bV HR11
  go_wp2_with fail
  rw [← HW.out]
  refine HQ.out.mono ?_
  rintro e u12 ⟨rfl, d⟩
  obtain ⟨F22, X22, sp, B, f⟩ := aft0 HSP.out HB.out HF.out HbV.out d
  clear HSP HB HF
  have HSP := hid_of sp
  have HB := hid_of B
  have HF := hid_of f
  clear d sp B f HQ HW HbV
  go_wp2_with fail
  refine (HI.out 1 u12).mono ?_
  rintro e c9 ⟨rfl, bb⟩
  have hsp' := HSP.out.below bb
  have hb' := HB.out.trans (bb.mono HB.out.size)
  clear HSP HB bb
  have HSP := hid_of hsp'
  have HB := hid_of hb'
  clear hsp' hb'
  go_wp2_with fail
  exact bodyPost_ret (v := .bool true) (by simp [results, Tryz.results9, go_sem]) rfl ⟨rfl, HB.out⟩
end Go.Proofs.YtminfpkigenahaaGreatDoor.KSure
