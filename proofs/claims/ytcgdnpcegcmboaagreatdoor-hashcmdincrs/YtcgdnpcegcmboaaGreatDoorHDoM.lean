/- Requests on hashes. All, and what it goes over. A region of open order within a round, one operation at a time; and a row of answers whose last two are laid behind append. -/
import Derived.Test.YtcgdnpcegcmboaaGreatDoorHLawM
import Derived.Test.YtcgdnpcegcmboaaGreatDoorHCwM
import Derived.Test.YtcgdnpcegcmboaaGreatDoorDiSmallM
import Derived.RangeFuncNested
import Derived.RangeFuncBound
import Derived.RangeFuncCalls
import Derived.RangeFuncLeaves
import Derived.Shelf.Abstract
import Derived.Shelf.RegionOpen
import Derived.WalkKit
import Derived.OwnWalkIn
import Derived.TacticsInMore
import Derived.LoopNIn
import Derived.LoopIn
import Derived.Stop.RegionWithIn
import Derived.Test.YtcgdnpcegcmboaaGreatDoorHGetM
import Derived.OrdersIn
import Derived.OrdersHeld
import Derived.RegionTactic
import Derived.RangeFuncWrites
section
namespace Go.Proofs.YtcgdnpcegcmboaaGreatDoor.HDo
open Go.RowKit Go.Maps
open Go.Proofs.YtcgdnpcegcmboaaGreatDoor.SpaceMath (wout withL lkp keys toD)
open Go.Proofs.YtcgdnpcegcmboaaGreatDoor.ValueMath (Vl chk small)
open Go.Proofs.YtcgdnpcegcmboaaGreatDoor.Base (mk mk_list mk_size Gr hid_of SL)
open Go.Proofs.YtcgdnpcegcmboaaGreatDoor.Turn
open Go.Proofs.YtcgdnpcegcmboaaGreatDoor.Vals
open Go.Proofs.YtcgdnpcegcmboaaGreatDoor.Check0 (Wel)
open Go.Proofs.YtcgdnpcegcmboaaGreatDoor.SBase
open Go.Proofs.YtcgdnpcegcmboaaGreatDoor.SFind
open Go.Proofs.YtcgdnpcegcmboaaGreatDoor.SPut (vO)
open Go.Proofs.YtcgdnpcegcmboaaGreatDoor.QBase
open Go.Proofs.YtcgdnpcegcmboaaGreatDoor.HCmd
open Go.Proofs.YtcgdnpcegcmboaaGreatDoor.DiBase (DK)
open Go.Proofs.YtcgdnpcegcmboaaGreatDoor.Parse (Has)
set_option linter.unusedVariables false
set_option linter.unusedSimpArgs false
open Go.Proofs.YtcgdnpcegcmboaaGreatDoor.HFld
open Go.Proofs.YtcgdnpcegcmboaaGreatDoor.HChg (Lay)
open Go.Proofs.YtcgdnpcegcmboaaGreatDoor.HSet (layF)
open Go.Proofs.YtcgdnpcegcmboaaGreatDoor.HDrop (dropF dropF_len)
open Go.Proofs.YtcgdnpcegcmboaaGreatDoor.HRow (RR rpL)
open Go.Proofs.YtcgdnpcegcmboaaGreatDoor.HMap (fnV cmdL)
open Go.Proofs.YtcgdnpcegcmboaaGreatDoor.Low (low)
open Go.Proofs.YtcgdnpcegcmboaaGreatDoor.RowOf (checkS)
open Go.Lib (itoa)
abbrev arB : ByteArray := ⟨#[69, 82, 82, 32, 119, 114, 111, 110, 103, 32, 110, 117, 109, 98, 101, 114, 32, 111, 102, 32, 97, 114, 103, 117, 109, 101, 110, 116, 115, 58, 32, 104, 115, 101, 116]⟩
/-- what a request wants -/
structure Rq (l : List Base.El) (f : FuncId) : Prop where
  ch : checkS l = []
  lo : 1 < l.length
  hi : l.length < 1000000
  bl : ∀ x ∈ l, x.length ≤ 1048576
  fn : lkp cmdL ((l.headD []).map low) = some (fnV f)
theorem Rq.fn0 {l : List Base.El} {f : FuncId} (h : Rq l f) (h0 : 0 < l.length) : lkp cmdL (l[0].map low) = some (fnV f) := by
  have := h.fn
  cases l with
  | nil => simp at h0
  | cons x r => exact this
theorem Rq.bl2 {l : List Base.El} {f : FuncId} (h : Rq l f) : ∀ x ∈ l, x.length ≤ 281474976710656 := fun x hx => Nat.le_trans (h.bl x hx) (by decide)
theorem Rq.bd {l : List Base.El} {f : FuncId} (h : Rq l f) : ∀ x ∈ l.drop 2, x.length ≤ 140737488351232 := fun x hx => Nat.le_trans (h.bl x (List.mem_of_mem_drop hx)) (by decide)
theorem Rq.bd2 {l : List Base.El} {f : FuncId} (h : Rq l f) : ∀ x ∈ l.drop 2, x.length ≤ 140737488355328 := fun x hx => Nat.le_trans (h.bl x (List.mem_of_mem_drop hx)) (by decide)
theorem layF_len : ∀ (ps : List Bs) (L : FL), (layF L ps).1.length ≤ L.length + ps.length
  | [], _ => Nat.le_refl _
  | [_], _ => by show _ ≤ _ + 1; exact Nat.le_succ _
  | f :: v :: r, L => by
    have h1 := layF_len r (DiDictMath.withL L f v)
    have h2 := DiDictMath.with_len L f v
    show (layF (DiDictMath.withL L f v) r).1.length ≤ L.length + (r.length + 1 + 1)
    omega
abbrev nolist (la : Option Addr) (ln lc : Nat) (_ : World) : Prop := la = none ∧ ln = 0 ∧ lc = 0
section
variable {F X : Nat → Prop} {b : Nat} {w : World} {S : Sp}
theorem run_set (h : SP F X b w S) (now : Int) (hn0 : 0 ≤ now) (hnM : now ≤ 9007199254740992) {G : Nat → Prop} {a : Option Addr} {n c : Nat} {l : List Base.El} (hl : SL G w (.slice a n c) l) (rq : Rq l 65) (hev : (l.drop 2).length % 2 = 0) {L : FL} (hL : flds S now (l[1]'rq.lo) L) (fit : Fit L) {S' : Sp} (hlay : Lay S now (l[1]'rq.lo) L (layF L (l.drop 2)).1 S') :
    Calls Tryz.prog 21 #[ptr b, .int .i64 now, .slice a n c] w fun e w' => e = .returned (rp 3 ⟨#[]⟩ ((layF L (l.drop 2)).2 : Int)) ∧ Dn F X b w w' S' := by
  have hfn := rq.hi
  have hk : (l[1]'rq.lo).length ≤ 281474976710656 := rq.bl2 _ (List.getElem_mem _)
  refine HLaw.run_do h now a n c 3 ((layF L (l.drop 2)).2 : Int) ⟨#[]⟩ fun V X' hS hV => ?_
  refine HRun.run_do hS now hn0 hnM (hl.below hV) rq.lo (by omega) rq.bl2 rq.ch _ (rq.fn0 (by have := rq.lo; omega)) (fun args w => by kernel_rfl) 3 ⟨#[]⟩ ((layF L (l.drop 2)).2 : Int) fun V2 a2 c2 hV2 hl2 => ?_
  have hf := fit.n
  have hd : (l.drop 2).length ≤ l.length := by rw [List.length_drop]; omega
  have hll := layF_len (l.drop 2) L
  exact HCw.set_call (sp_wide hS hV2) _ hk now hl2 hev rq.bd2 hL fit (by omega) (by omega) hlay
theorem run_setSeveral (h : SP F X b w S) (now : Int) (hn0 : 0 ≤ now) (hnM : now ≤ 9007199254740992) {G : Nat → Prop} {a : Option Addr} {n c : Nat} {l : List Base.El} (hl : SL G w (.slice a n c) l) (rq : Rq l 63) (hev : (l.drop 2).length % 2 = 0) {L : FL} (hL : flds S now (l[1]'rq.lo) L) (fit : Fit L) {S' : Sp} (hlay : Lay S now (l[1]'rq.lo) L (layF L (l.drop 2)).1 S') :
    Calls Tryz.prog 21 #[ptr b, .int .i64 now, .slice a n c] w fun e w' => e = .returned (rp 1 okB 0) ∧ Dn F X b w w' S' := by
  have hfn := rq.hi
  have hk : (l[1]'rq.lo).length ≤ 281474976710656 := rq.bl2 _ (List.getElem_mem _)
  refine HLaw.run_do h now a n c 1 0 okB fun V X' hS hV => ?_
  refine HRun.run_do hS now hn0 hnM (hl.below hV) rq.lo (by omega) rq.bl2 rq.ch _ (rq.fn0 (by have := rq.lo; omega)) (fun args w => by kernel_rfl) 1 okB 0 fun V2 a2 c2 hV2 hl2 => ?_
  have hf := fit.n
  have hd : (l.drop 2).length ≤ l.length := by rw [List.length_drop]; omega
  have hll := layF_len (l.drop 2) L
  exact HCw.setSeveral_call (sp_wide hS hV2) _ hk now hl2 hev rq.bd2 hL fit (by omega) (by omega) hlay
theorem run_drop (h : SP F X b w S) (now : Int) (hn0 : 0 ≤ now) (hnM : now ≤ 9007199254740992) {G : Nat → Prop} {a : Option Addr} {n c : Nat} {l : List Base.El} (hl : SL G w (.slice a n c) l) (rq : Rq l 55) {L : FL} (hL : flds S now (l[1]'rq.lo) L) (fit : Fit L) {S' : Sp} (hlay : Lay S now (l[1]'rq.lo) L (dropF L (l.drop 2)).1 S') :
    Calls Tryz.prog 21 #[ptr b, .int .i64 now, .slice a n c] w fun e w' => e = .returned (rp 3 ⟨#[]⟩ ((dropF L (l.drop 2)).2 : Int)) ∧ Dn F X b w w' S' := by
  have hfn := rq.hi
  have hk : (l[1]'rq.lo).length ≤ 281474976710656 := rq.bl2 _ (List.getElem_mem _)
  refine HLaw.run_do h now a n c 3 ((dropF L (l.drop 2)).2 : Int) ⟨#[]⟩ fun V X' hS hV => ?_
  refine HRun.run_do hS now hn0 hnM (hl.below hV) rq.lo (by omega) rq.bl2 rq.ch _ (rq.fn0 (by have := rq.lo; omega)) (fun args w => by kernel_rfl) 3 ⟨#[]⟩ ((dropF L (l.drop 2)).2 : Int) fun V2 a2 c2 hV2 hl2 => ?_
  have hf := fit.n
  have hd : (l.drop 2).length ≤ l.length := by rw [List.length_drop]; omega
  have hll := dropF_len (l.drop 2) L
  exact HDrop.drop_call (sp_wide hS hV2) _ hk now hl2 rq.bd2 hL fit (by omega) (by omega) hlay
theorem run_length (h : SP F X b w S) (now : Int) (hn0 : 0 ≤ now) (hnM : now ≤ 9007199254740992) {G : Nat → Prop} {a : Option Addr} {n c : Nat} {l : List Base.El} (hl : SL G w (.slice a n c) l) (rq : Rq l 61) {L : FL} (hL : flds S now (l[1]'rq.lo) L) (fit : Fit L) :
    Calls Tryz.prog 21 #[ptr b, .int .i64 now, .slice a n c] w fun e w' => e = .returned (rp 3 ⟨#[]⟩ (L.length : Int)) ∧ Dn F X b w w' S := by
  have hfn := rq.hi
  have hk : (l[1]'rq.lo).length ≤ 281474976710656 := rq.bl2 _ (List.getElem_mem _)
  refine HLaw.run_do h now a n c 3 (L.length : Int) ⟨#[]⟩ fun V X' hS hV => ?_
  refine HRun.run_do hS now hn0 hnM (hl.below hV) rq.lo (by omega) rq.bl2 rq.ch _ (rq.fn0 (by have := rq.lo; omega)) (fun args w => by kernel_rfl) 3 ⟨#[]⟩ (L.length : Int) fun V2 a2 c2 hV2 hl2 => ?_
  refine (HGet.length_call (sp_wide hS hV2) _ hk now a2 _ c2 hL fit 3 ⟨#[]⟩ (L.length : Int) nolist (fun _ _ _ _ _ _ _ h _ => h) fun V3 d m q hV3 hq hd => ?_).mono fun e w' ⟨la, ln, lc, h1, h2, h3⟩ => ?_
  · exact (HGet.length1_call V3 d m (.bool true) hd).mono fun e w' ⟨h1, h2⟩ => ⟨none, 0, 0, h1, ⟨rfl, rfl, rfl⟩, h2⟩
  · obtain ⟨rfl, rfl, rfl⟩ := h2
    exact ⟨h1, Dn.of (sp_wide hS hV2) h3⟩
theorem run_get_yes (h : SP F X b w S) (now : Int) (hn0 : 0 ≤ now) (hnM : now ≤ 9007199254740992) {G : Nat → Prop} {a : Option Addr} {n c : Nat} {l : List Base.El} (hl : SL G w (.slice a n c) l) (rq : Rq l 57) (h3 : 2 < l.length) {L : FL} (hL : flds S now (l[1]'rq.lo) L) (fit : Fit L) {v : Bs} (hlk : DiDictMath.lkp L l[2] = some v) :
    Calls Tryz.prog 21 #[ptr b, .int .i64 now, .slice a n c] w fun e w' => e = .returned (rp 4 (mk v) 0) ∧ Dn F X b w w' S := by
  have hfn := rq.hi
  have hk : (l[1]'rq.lo).length ≤ 281474976710656 := rq.bl2 _ (List.getElem_mem _)
  refine HLaw.run_do h now a n c 4 0 (mk v) fun V X' hS hV => ?_
  refine HRun.run_do hS now hn0 hnM (hl.below hV) rq.lo (by omega) rq.bl2 rq.ch _ (rq.fn0 (by have := rq.lo; omega)) (fun args w => by kernel_rfl) 4 (mk v) 0 fun V2 a2 c2 hV2 hl2 => ?_
  have h0 : 0 < (l.drop 2).length := by rw [List.length_drop]; omega
  have hw0 : (l.drop 2)[0] = l[2] := by simp
  refine (HGet.get_call (sp_wide hS hV2) _ hk now a2 _ c2 hL fit 4 (mk v) 0 nolist (fun _ _ _ _ _ _ _ h _ => h) fun V3 d m q hV3 hq hd => ?_).mono fun e w' ⟨la, ln, lc, h1, h2, h3⟩ => ?_
  · refine (HGet.get1_call b now _ V3 q d hq (hl2.below hV3) h0 4 (mk v) fun V4 hV4 => ?_).mono fun e w' ⟨h1, h2⟩ => ⟨none, 0, 0, h1, ⟨rfl, rfl, rfl⟩, h2⟩
    rw [hw0]
    exact HGet.valueOf_yes d m L l[2] V4 (hd.below hV4) (Nat.le_trans (rq.bl _ (List.getElem_mem _)) (by decide)) hlk
  · obtain ⟨rfl, rfl, rfl⟩ := h2
    exact ⟨h1, Dn.of (sp_wide hS hV2) h3⟩
theorem run_get_no (h : SP F X b w S) (now : Int) (hn0 : 0 ≤ now) (hnM : now ≤ 9007199254740992) {G : Nat → Prop} {a : Option Addr} {n c : Nat} {l : List Base.El} (hl : SL G w (.slice a n c) l) (rq : Rq l 57) (h3 : 2 < l.length) {L : FL} (hL : flds S now (l[1]'rq.lo) L) (fit : Fit L) (hlk : DiDictMath.lkp L l[2] = none) :
    Calls Tryz.prog 21 #[ptr b, .int .i64 now, .slice a n c] w fun e w' => e = .returned (rp 5 ⟨#[]⟩ 0) ∧ Dn F X b w w' S := by
  have hfn := rq.hi
  have hk : (l[1]'rq.lo).length ≤ 281474976710656 := rq.bl2 _ (List.getElem_mem _)
  refine HLaw.run_do h now a n c 5 0 ⟨#[]⟩ fun V X' hS hV => ?_
  refine HRun.run_do hS now hn0 hnM (hl.below hV) rq.lo (by omega) rq.bl2 rq.ch _ (rq.fn0 (by have := rq.lo; omega)) (fun args w => by kernel_rfl) 5 ⟨#[]⟩ 0 fun V2 a2 c2 hV2 hl2 => ?_
  have h0 : 0 < (l.drop 2).length := by rw [List.length_drop]; omega
  have hw0 : (l.drop 2)[0] = l[2] := by simp
  refine (HGet.get_call (sp_wide hS hV2) _ hk now a2 _ c2 hL fit 5 ⟨#[]⟩ 0 nolist (fun _ _ _ _ _ _ _ h _ => h) fun V3 d m q hV3 hq hd => ?_).mono fun e w' ⟨la, ln, lc, h1, h2, h3⟩ => ?_
  · refine (HGet.get1_call b now _ V3 q d hq (hl2.below hV3) h0 5 ⟨#[]⟩ fun V4 hV4 => ?_).mono fun e w' ⟨h1, h2⟩ => ⟨none, 0, 0, h1, ⟨rfl, rfl, rfl⟩, h2⟩
    rw [hw0]
    exact HGet.valueOf_no d m L l[2] V4 (hd.below hV4) (Nat.le_trans (rq.bl _ (List.getElem_mem _)) (by decide)) hlk
  · obtain ⟨rfl, rfl, rfl⟩ := h2
    exact ⟨h1, Dn.of (sp_wide hS hV2) h3⟩
theorem run_incr (h : SP F X b w S) (now : Int) (hn0 : 0 ≤ now) (hnM : now ≤ 9007199254740992) {G : Nat → Prop} {a : Option Addr} {n c : Nat} {l : List Base.El} (hl : SL G w (.slice a n c) l) (rq : Rq l 59) (h4 : 3 < l.length) (hh : Has w) {L : FL} (hL : flds S now (l[1]'rq.lo) L) (fit : Fit L) {y x : Int} (hp : prs l[3] = some y) (hy : DiNumMath.InI y) (HPd : DiIncr.Pd L l[2] x 0) (hfb : DiNumMath.fitB (x + y) = true) {S' : Sp} (hlay : Lay S now (l[1]'rq.lo) L (DiDictMath.withL L l[2] (itoa (x + y))) S') :
    Calls Tryz.prog 21 #[ptr b, .int .i64 now, .slice a n c] w fun e w' => e = .returned (rp 3 ⟨#[]⟩ (x + y)) ∧ Dn F X b w w' S' := by
  have hfn := rq.hi
  have hk : (l[1]'rq.lo).length ≤ 281474976710656 := rq.bl2 _ (List.getElem_mem _)
  refine HLaw.run_do h now a n c 3 (x + y) ⟨#[]⟩ fun V X' hS hV => ?_
  refine HRun.run_do hS now hn0 hnM (hl.below hV) rq.lo (by omega) rq.bl2 rq.ch _ (rq.fn0 (by have := rq.lo; omega)) (fun args w => by kernel_rfl) 3 ⟨#[]⟩ (x + y) fun V2 a2 c2 hV2 hl2 => ?_
  have h1 : 1 < (l.drop 2).length := by rw [List.length_drop]; omega
  have hw0 : (l.drop 2)[0] = l[2] := by simp
  have hw1 : (l.drop 2)[1] = l[3] := by simp
  have hf := fit.n
  have hwl := DiDictMath.with_len L l[2] (itoa (x + y))
  refine HIncw.increment_ok (sp_wide hS hV2) _ hk now hl2 h1 rq.bd ((hh.later hV).later hV2) (y := y) (by rw [hw1]; exact hp) hL fit (by omega) hlay 3 ⟨#[]⟩ (x + y) fun B V3 q q2 d m hq hq2 hsl hh3 hB hd hm => ?_
  have H := HInc.inc1_ok b now _ B V3 q q2 d m L x y hq hq2 hsl (by omega) (Nat.le_trans (rq.bd _ (List.getElem_mem _)) (by decide)) hy hh3 fit (by rw [hw0]; exact HPd) hfb hB hd hm
  rw [hw0] at H
  exact H
theorem run_incr_bad (h : SP F X b w S) (now : Int) (hn0 : 0 ≤ now) (hnM : now ≤ 9007199254740992) {G : Nat → Prop} {a : Option Addr} {n c : Nat} {l : List Base.El} (hl : SL G w (.slice a n c) l) (rq : Rq l 59) (h4 : 3 < l.length) (hh : Has w) (hp : prs l[3] = none) :
    Calls Tryz.prog 21 #[ptr b, .int .i64 now, .slice a n c] w fun e w' => e = .returned (rp 2 numB 0) ∧ Dn F X b w w' S := by
  have hfn := rq.hi
  have hk : (l[1]'rq.lo).length ≤ 281474976710656 := rq.bl2 _ (List.getElem_mem _)
  refine HLaw.run_do h now a n c 2 0 numB fun V X' hS hV => ?_
  refine HRun.run_do hS now hn0 hnM (hl.below hV) rq.lo (by omega) rq.bl2 rq.ch _ (rq.fn0 (by have := rq.lo; omega)) (fun args w => by kernel_rfl) 2 numB 0 fun V2 a2 c2 hV2 hl2 => ?_
  have h1 : 1 < (l.drop 2).length := by rw [List.length_drop]; omega
  have hw0 : (l.drop 2)[0] = l[2] := by simp
  have hw1 : (l.drop 2)[1] = l[3] := by simp
  exact (HIncw.increment_bad (sp_wide hS hV2) _ hk now hl2 h1 rq.bd ((hh.later hV).later hV2) (by rw [hw1]; exact hp)).mono fun e w' ⟨h1, h2⟩ => ⟨h1, Dn.of (sp_wide hS hV2) h2⟩
end
end Go.Proofs.YtcgdnpcegcmboaaGreatDoor.HDo
end
section
namespace Go.Proofs.YtcgdnpcegcmboaaGreatDoor.DiIter
open Go.RowKit Go.Maps Go.Sort Go.Shelf
open Go.Proofs.YtcgdnpcegcmboaaGreatDoor.DiDictMath
open Go.Proofs.YtcgdnpcegcmboaaGreatDoor.DiBase
open Go.Proofs.YtcgdnpcegcmboaaGreatDoor.DiSmall
open Go.Proofs.YtcgdnpcegcmboaaGreatDoor.DiFields
set_option linter.unusedVariables false
set_option linter.unusedSimpArgs false
attribute [local go_sem] Oper.semAt_some

theorem fld_shape {w : World} {B : Nat} {v : Value} {xs : FL} (h : w.ownsRow B 50 2 v xs.length (xs.flatMap fCells)) : ∃ a c, v = .slice a xs.length c := by
  obtain ⟨a, c, e, _⟩ := fs_row h
  exact ⟨a, c, e⟩
abbrev Fx (l : FL) : Type := { p : Bs × Bs // p ∈ l }
def encF (l : FL) (x : Fx l) : Array Value := #[.string (mk x.1.1), .string (mk x.1.2)]
/- the blocks of which G speaks stand -/
def Kp (G : Nat → Prop) (W W' : World) : Prop := ∀ k, G k → W'.heap[k]? = W.heap[k]?
theorem kp_t {G : Nat → Prop} {A B C : World} (h : Kp G A B) (k : Kp G B C) : Kp G A C := fun i hi => (k i hi).trans (h i hi)
/- a slice of fields in a block of G -/
structure FG (G : Nat → Prop) (w : World) (v : Value) (l : FL) : Prop where
  fs : FS w v l
  own : ∀ g o n c, v = .slice (some ⟨g, o, none⟩) n c → 0 < l.length → G g
theorem at_of {G : Nat → Prop} {w : World} {v : Value} {l : FL} (h : FG G w v l) : ∃ a c, v = .slice a l.length c ∧ ∀ k (hk : k < l.length), ∃ g o, a = some ⟨g, o, none⟩ ∧ ∀ W, Kp G w W → W.cell? ⟨g, o + k * 2, none⟩ = some (.string (mk (l[k]'hk).1)) ∧ W.cell? ⟨g, o + k * 2 + 1, none⟩ = some (.string (mk (l[k]'hk).2)) := by
  obtain ⟨⟨a, c, rfl, hq⟩, ho⟩ := h
  refine ⟨a, c, rfl, fun k hk => ?_⟩
  rcases hq with rfl | ⟨g, o, rfl, hq⟩
  · simp at hk
  · refine ⟨g, o, rfl, fun W hW => ?_⟩
    have hb := hW g (ho g o _ _ rfl (by omega))
    have e : ∀ j x, w.cell? ⟨g, j, none⟩ = some x → W.cell? ⟨g, j, none⟩ = some x := fun j x hx => by
      unfold World.cell? at hx ⊢
      rw [hb]
      exact hx
    exact ⟨e _ _ (hq k hk).1, e _ _ (hq k hk).2⟩
def xsOf (l : FL) (k : Nat) : List (Fx l) := (l.attach).take k
theorem xs_map (l : FL) (k : Nat) : (xsOf l k).map (·.1) = l.take k := by
  unfold xsOf
  rw [List.map_take, List.attach_map_subtype_val]
theorem xs_len (l : FL) (k : Nat) (h : k ≤ l.length) : (xsOf l k).length = k := by unfold xsOf; simp; omega
theorem xs_snoc (l : FL) (k : Nat) (h : k < l.length) : xsOf l (k + 1) = xsOf l k ++ [⟨l[k]'h, List.getElem_mem h⟩] := by
  unfold xsOf
  rw [List.take_succ_eq_append_getElem (by simpa using h)]
  simp
set_option maxRecDepth 100000 in
set_option maxHeartbeats 4000000 in
theorem iter_stops (n : Nat) (hn : 1 ≤ n) (G : Nat → Prop) (Bx : Nat) (v : Value) (l : FL) (w : World) (hl : l.length < 140737488355328) (hB : G Bx) (hG : ∀ k, G k → k < w.heap.size) (hc : w.cell? ⟨Bx, 0, none⟩ = some v) (hf : FG G w v l) :
    SeqStopsK Fence.wide n Tryz.prog 135 #[.pointer (some ⟨Bx, 0, none⟩)] (encF l) (Kp G) (fun xs => xs = xsOf l l.length) (fun pre => ∃ k, k < l.length ∧ pre = xsOf l (k + 1)) l.length w := fun lp J Jx W hW hJ hJx hY h0 => by
  have hkW : Kp G w W := fun k hk => hW.block k (hG k hk)
  have hcW : W.cell? ⟨Bx, 0, none⟩ = some v := cell_on hW hc
  obtain ⟨a, c, rfl, hat⟩ := at_of hf
  have HA := hid_of hat
  have HJ := hid_of hJ
  have HY := hid_of hY
  clear hat hf hc hY hJ hJx
  refine callsIn_of_wp Tryz.func135 rfl trivial ?_ rfl
  simp only [Tryz.ntmps135, List.size_toArray, List.length_cons, List.length_nil, Nat.reduceAdd, Nat.reduceSub, Array.replicate_succ, Array.replicate_zero, List.push_toArray, List.append_toArray, List.nil_append, List.cons_append]
  gi_wp2_with fail
  gi_loopw [7] (fun si wr => ∃ k : Nat, k ≤ l.length ∧ si = .int .i64 (k : Int) ∧ Hid (J (xsOf l k) wr) ∧ Hid (Kp G w wr)) (fun si wr => l.length - (intOf si).toNat)
  case atStart => exact ⟨0, by omega, rfl, hid_of (by simpa [xsOf] using h0), hid_of hkW⟩
  case round =>
    obtain ⟨k, hk, rfl, HJk, HK⟩ := hrel
    by_cases hlt : k < l.length
    · obtain ⟨g, o, rfl, hcl⟩ := HA.out k hlt
      obtain ⟨c0, c1⟩ := hcl wr HK.out
      have e2 : IntKind.i64.wrap ((k : Int) + 1) = (k : Int) + 1 := IntWalk.i64_in _ (by omega)
      have g2 : (k : Int) < (l.length : Int) := by omega
      have hJa : J (xsOf l k) (wr.alloc (.cells #[.string (mk (l[k]'hlt).1), .string (mk (l[k]'hlt).2)] 50)) := HJ.out _ _ _ none HJk.out (World.grownBy_alloc wr _ none) (fun r e => by cases e)
      obtain ⟨fn, tmps, assign, body, hy, hR⟩ := HY.out (xsOf l k) ⟨l[k]'hlt, List.getElem_mem hlt⟩ _ hJa (by rw [xs_len l k hk]; exact hlt)
      rw [← xs_snoc l k hlt] at hR
      have KA : Hid (Kp G w (wr.alloc (.cells #[.string (mk (l[k]'hlt).1), .string (mk (l[k]'hlt).2)] 50))) := hid_of (kp_t HK.out (fun i hi => Below.heap_alloc wr _ i (by
        have h1 := HK.out i hi
        rw [Array.getElem?_eq_getElem (hG i hi)] at h1
        exact lt_of h1)))
      unfold encF at hy
      dsimp only at hy
      have HR := hid_of hR
      clear hR hJa hcl
      generalize mk (l[k]'hlt).1 = X at *
      generalize mk (l[k]'hlt).2 = Y at *
      gi_wp2
      refine HR.out.mono ?_
      rintro e W3 (⟨rfl, hJ3, hk3⟩ | ⟨rfl, hJx3⟩)
      · have HJ3 := hid_of hJ3
        have HK3 := hid_of (kp_t KA.out hk3)
        clear hJ3 hk3
        gi_wp2
        go_roundw
        case rel => exact ⟨k + 1, by omega, by rw [show ((k + 1 : Nat) : Int) = (k : Int) + 1 from by omega], HJ3, HK3⟩
        case measure => simp [intOf]; omega
      · gi_wp2
        refine bodyPost_ret (results_none rfl _ _ _) rfl ?_
        exact ⟨⟨_, rfl⟩, .inr ⟨_, ⟨k, hlt, rfl⟩, hJx3⟩⟩
    · obtain rfl : k = l.length := by omega
      have gi : ¬ (l.length : Int) < (l.length : Int) := by omega
      gi_wp2
      go_end0
      exact ⟨⟨_, rfl⟩, .inl HJk.out⟩
def AllE (l : FL) (w : World) (e : Ending) (w' : World) : Prop := ∃ B v, e = .returned (.func (.func 135) #[] #[.pointer (some ⟨B, 0, none⟩)]) ∧ w'.heap[B]? = some (.cells #[v] 43 (0, 0)) ∧ w.heap.size ≤ B ∧ w'.ownsRow w.heap.size 50 2 v l.length (l.flatMap fCells) ∧ Below w.heap.size w w'
set_option maxRecDepth 100000 in
set_option maxHeartbeats 1000000 in
theorem all_call (b m : Nat) (l : FL) (w : World) (h : DK b m l w) (hn : l.length < 8796093022208) : Calls Tryz.prog 96 #[ptr b] w fun e w' => AllE l w e w' := by
  have H1 := hid_of (all_fields b m l w h hn)
  clear h
  go_enter Tryz.func96, Tryz.ntmps96
  go_wp2_with fail
  refine H1.out.mono ?_
  rintro e w1 ⟨v, rfl, o1, b1⟩
  have bA : Below w1.heap.size w1 (w1.alloc (.cells #[v] 43)) := (Below.refl _ w1).alloc (Nat.le_refl _) _
  have HO := hid_of (row_below o1 bA)
  have HB := hid_of (DiBase.bel b1 bA (Nat.le_refl _))
  have HX := hid_of (heap_alloc_new w1 (.cells #[v] 43))
  have HS := hid_of b1.size
  obtain ⟨a, c, rfl⟩ := fld_shape o1
  clear o1 b1 bA
  go_wp2_with fail
  go_ret
  exact ⟨w1.heap.size, _, rfl, HX.out, HS.out, HO.out, HB.out⟩
end Go.Proofs.YtcgdnpcegcmboaaGreatDoor.DiIter
end
section
namespace Go.Proofs.YtcgdnpcegcmboaaGreatDoor.HReg
open Go.RowKit Go.Maps Go.Sort
open Go.Proofs.YtcgdnpcegcmboaaGreatDoor.SpaceMath (wout withL lkp keys toD)
open Go.Proofs.YtcgdnpcegcmboaaGreatDoor.ValueMath (Vl chk small)
open Go.Proofs.YtcgdnpcegcmboaaGreatDoor.Base (mk mk_list mk_size Gr hid_of SL)
open Go.Proofs.YtcgdnpcegcmboaaGreatDoor.Turn
open Go.Proofs.YtcgdnpcegcmboaaGreatDoor.Vals
open Go.Proofs.YtcgdnpcegcmboaaGreatDoor.Check0 (Wel)
open Go.Proofs.YtcgdnpcegcmboaaGreatDoor.SBase
open Go.Proofs.YtcgdnpcegcmboaaGreatDoor.SFind
open Go.Proofs.YtcgdnpcegcmboaaGreatDoor.SPut (vO)
open Go.Proofs.YtcgdnpcegcmboaaGreatDoor.QBase
open Go.Proofs.YtcgdnpcegcmboaaGreatDoor.HCmd
open Go.Proofs.YtcgdnpcegcmboaaGreatDoor.DiBase (DK)
open Go.Proofs.YtcgdnpcegcmboaaGreatDoor.Parse (Has)
set_option linter.unusedVariables false
set_option linter.unusedSimpArgs false
open Go.Proofs.YtcgdnpcegcmboaaGreatDoor.HRow (RR rep rpL)
section
variable {P : Program} {ops : Array Oper} {Q : Exit → Act → World → Prop} {md : Region.Mode} {S : World → Prop} {l n : Nat}
/-- no defer statement -/
def plainOp (o : Oper) : Bool := match o.op with
  | .defer _ => false
  | _ => true
theorem op_round {o : Oper} {a : Act} {w : World} {K K' : Act → World → Prop} (hd : plainOp o = true) (hK : ∀ a w, K a w → K' a w) (h : o.wp P a w K Q) : o.wpIn (Fence.wide.inRound l) n P a w K' Q := by
  unfold Oper.wpIn
  unfold Oper.wp at h
  refine ⟨fun _ _ => trivial, ?_⟩
  rw [Oper.semAt_eq _ _ _ (fun c e => by unfold plainOp at hd; rw [e] at hd; cases hd)]
  revert h
  generalize (execOp a.eval o).run P w = r
  intro h
  cases r with
  | ok x w' =>
    cases x with
    | value v => exact hK _ _ h
    | skip => exact hK _ _ h
    | defer d => exact hK _ _ h
    | enter f args =>
      exact ⟨fun h => (by simp [Fence.wide] at h), (CallsIn.inRound l (callsIn_wide.2 h)).mono fun e w'' he => by
        cases e with
        | returned v => exact hK _ _ he
        | panicked c => exact he
        | outgrown => exact he⟩
    | row r args =>
      exact ⟨fun h => (by simp [Fence.wide] at h), fun c cs _ => by
        obtain ⟨v, w'', q, s⟩ := h c cs
        exact ⟨v, w'', hK _ _ q, stepsIn_wide.2 s⟩⟩
    | _ => exact h.elim
  | halt x w' => cases x <;> exact h
theorem any_round (hd : ∀ (i : Nat) (o : Oper), ops[i]? = some o → plainOp o = true) (hQ : ¬ LetsOut Q) : ∀ (fuel : Nat) (listed : Array Bool) (a : Act) (w : World), wpAny P md ops Q fuel listed a w → wpAnyIn (Fence.wide.inRound l) n P md ops Q fuel listed a w
  | 0, _, _, _, h => h
  | fuel + 1, listed, a, w, h => ⟨h.1, fun i hi => by
      have h2 := h.2 i hi
      unfold wpOp at h2
      unfold wpOpIn
      split
      · rename_i e
        rw [e] at h2
        exact any_round hd hQ fuel _ a w h2
      · rename_i o e
        rw [e] at h2
        dsimp only at h2
        split
        · rename_i hw
          rw [if_pos hw] at h2
          rcases h2 with h2 | h2
          · exact op_round (hd i o e) (fun a' w' h3 => any_round hd hQ fuel _ a' w' h3) h2
          · exact absurd h2.2 hQ
        · rename_i hw
          rw [if_neg hw] at h2
          exact ⟨fun _ _ => trivial, any_round hd hQ fuel _ _ w h2⟩⟩
theorem region_round (S : World → Prop) {id : Nat} {a : Act} {w : World} (hm : P.follows .mixedOrders = true) (hd : ops.all plainOp = true) (hQ : ¬ LetsOut Q)
    (h : wpAnyH P .any ops Q S ops.size (Array.replicate ops.size false) a w.drew) : (Code.region id ops true).wpIn (Fence.wide.inRound l) n P Q a w :=
  wpIn_region_any hm (any_round (fun i o e => by
    obtain ⟨hi, e⟩ := Array.getElem?_eq_some_iff.1 e
    rw [← e]
    exact Array.all_eq_true.1 hd i hi) hQ _ _ _ _ (wpAny_of_held _ _ _ _ h))
theorem op_any {i : Nat} {o : Oper} {a : Act} {w : World} {K : Act → World → Prop} (hi : ops[i]? = some o) (hg : o.guard = none) (h : o.wp P a w K Q) : wpOp P ops Q i K a w := by
  unfold wpOp
  simp only [hi]
  have hw : Region.wanted o (yielded ops a.tmps) = true := by simp [Region.wanted, hg]
  simp only [hw, if_true]
  exact .inl h
theorem op_value {i : Nat} {o : Oper} {a : Act} {w w' : World} {v : Value} {K : Act → World → Prop} (hi : ops[i]? = some o) (hg : o.guard = none) (hx : (execOp a.eval o).run P w = .ok (.value v) w') (hK : K (a.put o.dst v) w') : wpOp P ops Q i K a w := by
  refine op_any hi hg ?_
  unfold Oper.wp
  rw [hx]
  exact hK
theorem op_skip {i : Nat} {o : Oper} {a : Act} {w w' : World} {K : Act → World → Prop} (hi : ops[i]? = some o) (hg : o.guard = none) (hx : (execOp a.eval o).run P w = .ok .skip w') (hK : K (a.put o.dst undef) w') : wpOp P ops Q i K a w := by
  refine op_any hi hg ?_
  unfold Oper.wp
  rw [hx]
  exact hK
theorem op_call {i : Nat} {o : Oper} {a : Act} {w : World} {f : FuncId} {args : Array Value} {K : Act → World → Prop} (hi : ops[i]? = some o) (hg : o.guard = none) (hx : (execOp a.eval o).run P w = .ok (.enter f args) w)
    (hK : Calls P f args w fun e w' => ∃ v, e = .returned v ∧ K (a.put o.dst v) w') : wpOp P ops Q i K a w := by
  refine op_any hi hg ?_
  unfold Oper.wp
  rw [hx]
  simp only [Oper.upon]
  refine hK.mono ?_
  rintro e w' ⟨v, rfl, hk⟩
  exact hk
theorem wp_app {o : Oper} {a : Act} {w w' : World} {v sv xv : Value} {K : Act → World → Prop} (s x : Operand) (t : TypeId) (hr : (Builtin.append_ #[t, t] t #[sv, xv]).run P w = .ok v w') (ho : o.op = .call { callee := .builtin .append, args := #[s, x], argTypes := #[t, t] }) (ht : o.type = t) (h1 : a.eval s = sv) (h2 : a.eval x = xv)
    (hK : K (a.put o.dst v) w') : o.wp P a w K Q := by
  unfold Oper.wp execOp
  simp only [ho, resolve, invoke, builtin, Sem.run_bind, Sem.run_pure, Result.andThen_ok, List.map_toArray, List.map_cons, List.map_nil, h1, h2, ht, hr]
  exact hK
end
theorem fa1 {p : Nat → Prop} {i : Nat} (h : p i) : ∀ j ∈ [i], p j := by intro j hj; rw [List.mem_singleton.1 hj]; exact h
theorem fa2 {p : Nat → Prop} {i k : Nat} (h : p i) (h2 : p k) : ∀ j ∈ [i, k], p j := List.forall_mem_cons.2 ⟨h, fa1 h2⟩
theorem fa3 {p : Nat → Prop} {i k m : Nat} (h : p i) (h2 : p k) (h3 : p m) : ∀ j ∈ [i, k, m], p j := List.forall_mem_cons.2 ⟨h, fa2 h2 h3⟩
def st4 (w : World) (g off : Nat) (s : ByteArray) : World := (((w.setCell ⟨g, off, none⟩ (.int .i64 4)).setCell ⟨g, off + 1, none⟩ (.string s)).setCell ⟨g, off + 2, none⟩ (.int .i64 0)).setCell ⟨g, off + 3, none⟩ (.slice none 0 0)
theorem exec_store4 {o : Oper} {a : Act} {V : World} {s1 s2 g off : Nat} {s : ByteArray} {L : List Value} {t : TypeId} (ho : o.op = .store 25 (.tmp s1) (.tmp s2)) (h1 : a.eval (.tmp s1) = .pointer (some ⟨g, off, none⟩)) (h2 : a.eval (.tmp s2) = rp 4 s 0)
    (hg : V.heap[g]? = some (.cells L.toArray t (0, 0))) (hsz : off + 4 ≤ L.length) : (execOp a.eval o).run Tryz.prog V = .ok .skip (st4 V g off s) := by
  cases o
  simp only at ho
  subst ho
  have c : ∀ i, V.cell? ⟨g, i, none⟩ = L[i]? := fun i => by rw [Lib.cell_of_heap hg i]; simp
  have fv : ∀ i, V.frozen? ⟨g, i, none⟩ = false := fun i => Lib.frozen_of_heap hg i
  have c0 := (c off).trans (List.getElem?_eq_getElem (by omega))
  have c1 := (c (off + 1)).trans (List.getElem?_eq_getElem (by omega))
  have c2 := (c (off + 2)).trans (List.getElem?_eq_getElem (by omega))
  have c3 := (c (off + 3)).trans (List.getElem?_eq_getElem (by omega))
  have f0 := fv off
  have f1 := fv (off + 1)
  have f2 := fv (off + 2)
  have f3 := fv (off + 3)
  clear c fv
  generalize L[off] = z0 at c0
  generalize L[off + 1] = z1 at c1
  generalize L[off + 2] = z2 at c2
  generalize L[off + 3] = z3 at c3
  unfold st4
  simp only [execOp, h1, h2]
  unfold rp
  go_simp
theorem exec_store1 {o : Oper} {a : Act} {V : World} {s1 s2 T : Nat} {x : Option Addr} {n c : Nat} {tv : Value} {t : TypeId} (ho : o.op = .store 23 (.tmp s1) (.tmp s2)) (h1 : a.eval (.tmp s1) = .pointer (some ⟨T, 0, none⟩)) (h2 : a.eval (.tmp s2) = .slice x n c)
    (hT : V.heap[T]? = some (.cells #[tv] t (0, 0))) : (execOp a.eval o).run Tryz.prog V = .ok .skip (V.setCell ⟨T, 0, none⟩ (.slice x n c)) := by
  cases o
  simp only at ho
  subst ho
  have c0 : V.cell? ⟨T, 0, none⟩ = some tv := Lib.cell_of_heap hT 0
  have f0 : V.frozen? ⟨T, 0, none⟩ = false := Lib.frozen_of_heap hT 0
  simp only [execOp, h1, h2]
  go_simp
theorem exec_index {o : Oper} {a : Act} {w : World} {s1 s2 g n c i off : Nat} (ho : o.op = .indexAddr 23 (.tmp s1) (.tmp s2)) (h1 : a.eval (.tmp s1) = .slice (some ⟨g, 0, none⟩) n c) (h2 : a.eval (.tmp s2) = .int .i64 (i : Int)) (hi : i < n) (he : off = i * 4) :
    (execOp a.eval o).run Tryz.prog w = .ok (.value (.pointer (some ⟨g, off, none⟩))) w := by
  cases o
  simp only at ho
  subst ho
  subst he
  have h0 : (0 : Int) ≤ (i : Int) := Int.natCast_nonneg _
  have h3 : (i : Int) < (n : Int) := by omega
  simp only [execOp, h1, h2]
  go_simp
/-- behind append: the row g, the list's box, the rest -/
structure St (w W : World) (B3 : Nat) (V : World) (g : Nat) (L : List Value) (tv : Value) : Prop where
  bel : Below w.heap.size w V
  size : W.heap.size ≤ V.heap.size
  gB : B3 ≤ g
  lt : w.heap.size + 2 ≤ B3
  hg : V.heap[g]? = some (.cells L.toArray 25 (0, 0))
  hT : V.heap[w.heap.size + 1]? = some (.cells #[tv] 23 (0, 0))
  lo : ∀ k, k < B3 → k ≠ w.heap.size + 1 → V.heap[k]? = W.heap[k]?
  keeps : KeepsFrom B3 W V
section
variable {w W V : World} {B3 g : Nat} {L : List Value} {tv : Value}
theorem set_keeps {b i : Nat} {cs : Array Value} {t : TypeId} {fz : Nat × Nat} (h : V.heap[b]? = some (.cells cs t fz)) (y : Value) (k : KeepsFrom B3 W V) : KeepsFrom B3 W (V.setCell ⟨b, i, none⟩ y) :=
  k.trans ⟨by simp, fun j o _ hj hc => by
    rw [set_ne (fun e => by subst e; rw [h] at hj; cases hj; cases hc)]
    exact hj⟩
theorem St.cell (h : St w W B3 V g L tv) (i : Nat) (y : Value) : St w W B3 (V.setCell ⟨g, i, none⟩ y) g (L.set i y) tv := by
  have hb := h.gB
  have hl := h.lt
  refine ⟨bset h.bel (by omega) y, by simpa using h.size, hb, hl, ?_, ?_, fun k hk hT => ?_, set_keeps h.hg y h.keeps⟩
  · have := set_at (i := i) h.hg y
    rw [List.setIfInBounds_toArray] at this
    exact this
  · rw [set_ne (by omega)]
    exact h.hT
  · rw [set_ne (by omega)]
    exact h.lo k hk hT
theorem St.put (h : St w W B3 V g L tv) (off : Nat) (s : ByteArray) : St w W B3 (st4 V g off s) g ((((L.set off (.int .i64 4)).set (off + 1) (.string s)).set (off + 2) (.int .i64 0)).set (off + 3) (.slice none 0 0)) tv :=
  (((h.cell off _).cell (off + 1) _).cell (off + 2) _).cell (off + 3) _
theorem St.box (h : St w W B3 V g L tv) (y : Value) : St w W B3 (V.setCell ⟨w.heap.size + 1, 0, none⟩ y) g L y := by
  have hb := h.gB
  have hl := h.lt
  refine ⟨bset h.bel (by omega) y, by simpa using h.size, hb, hl, ?_, ?_, fun k hk hT => ?_, set_keeps h.hT y h.keeps⟩
  · rw [set_ne (by omega)]
    exact h.hg
  · simpa using set_at (i := 0) h.hT y
  · rw [set_ne hT]
    exact h.lo k hk hT
end
theorem sets_two (A R : List Value) (n : Nat) (hA : A.length = n) (s t : ByteArray) (p0 p1 p2 p3 p4 p5 p6 p7 : Value) :
    ((((((((A ++ (p0 :: p1 :: p2 :: p3 :: p4 :: p5 :: p6 :: p7 :: R)).set n (.int .i64 4)).set (n + 1) (.string s)).set (n + 2) (.int .i64 0)).set (n + 3) (.slice none 0 0)).set (n + 4) (.int .i64 4)).set (n + 4 + 1) (.string t)).set (n + 4 + 2) (.int .i64 0)).set (n + 4 + 3) (.slice none 0 0)
    = A ++ ([.int .i64 4, .string s, .int .i64 0, .slice none 0 0, .int .i64 4, .string t, .int .i64 0, .slice none 0 0] ++ R) := by
  subst hA
  have e : ∀ k, A.length + k - A.length = k := fun k => by omega
  simp [List.set_append, Nat.add_assoc, e, List.set_cons_succ]
end Go.Proofs.YtcgdnpcegcmboaaGreatDoor.HReg
end
