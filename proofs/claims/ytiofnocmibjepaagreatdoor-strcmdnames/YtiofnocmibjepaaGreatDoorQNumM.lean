/- The laws' small parts: whether an answer is a number, a text; what a request leaves beside a box. A space that begins with one text. -/
import Derived.Test.YtiofnocmibjepaaGreatDoorQRunM
import Derived.Test.YtiofnocmibjepaaGreatDoorQDocPM
import Derived.Deep.RegionHeld3
section
namespace Go.Proofs.YtiofnocmibjepaaGreatDoor.QNum
open Go.RowKit Go.Maps
open Go.Proofs.YtiofnocmibjepaaGreatDoor.SpaceMath
open Go.Proofs.YtiofnocmibjepaaGreatDoor.Base (mk mk_list mk_size Gr hid_of SL)
open Go.Proofs.YtiofnocmibjepaaGreatDoor.Turn
open Go.Proofs.YtiofnocmibjepaaGreatDoor.Vals
open Go.Proofs.YtiofnocmibjepaaGreatDoor.SBase
open Go.Proofs.YtiofnocmibjepaaGreatDoor.SFind (alb)
open Go.Proofs.YtiofnocmibjepaaGreatDoor.QBase
open Go.Proofs.YtiofnocmibjepaaGreatDoor.QCmd
open Go.Proofs.YtiofnocmibjepaaGreatDoor.QPut
open Go.Proofs.YtiofnocmibjepaaGreatDoor.QAdd
set_option linter.unusedVariables false
set_option linter.unusedSimpArgs false
set_option maxRecDepth 100000 in
theorem number_call (k : Int) (T : ByteArray) (n m : Int) (w : World) :
    Calls Tryz.prog 16 #[rp k T n, .int .i64 m] w fun e w' => e = .returned (.bool (decide (k = 3 ∧ n = m))) ∧ Below w.heap.size w w' := by
  obtain ⟨W, hW⟩ : ∃ W, W = w.alloc (rO k T n (.slice none 0 0)) := ⟨_, rfl⟩
  have HB := hid_of (show Below w.heap.size w W by rw [hW]; exact alb _ _)
  have x : W.heap[w.heap.size]? = some (rO k T n (.slice none 0 0)) := by rw [hW]; exact heap_alloc_new w _
  obtain ⟨⟨v0, v1, v2, v3⟩, -⟩ := box4 x
  have HW := hid_of hW
  clear hW x
  by_cases hk : k = 3
  · subst hk
    by_cases hn : n = m
    · subst hn
      go_enter Tryz.func16, Tryz.ntmps16
      go_wp2_with fail
      rw [← HW.out]
      go_wp2_with fail
      exact bodyPost_ret (v := .bool true) (by simp [results, Tryz.results16, go_sem]) rfl ⟨by simp, HB.out⟩
    · have hb : (n == m) = false := by simpa using hn
      go_enter Tryz.func16, Tryz.ntmps16
      go_wp2_with fail
      rw [← HW.out]
      go_wp2_with fail
      exact bodyPost_ret (v := .bool false) (by simp [results, Tryz.results16, go_sem, hn]) rfl ⟨by simp [hn], HB.out⟩
  · have hb : (k == 3) = false := by simpa using hk
    go_enter Tryz.func16, Tryz.ntmps16
    go_wp2_with fail
    rw [← HW.out]
    go_wp2_with fail
    exact bodyPost_ret (v := .bool false) (by simp [results, Tryz.results16, go_sem, hk]) rfl ⟨by simp [hk], HB.out⟩
set_option maxRecDepth 100000 in
theorem bulk_call (k : Int) (T : ByteArray) (n : Int) (U : ByteArray) (w : World) :
    Calls Tryz.prog 17 #[rp k T n, .string U] w fun e w' => e = .returned (.bool (decide (k = 4 ∧ T.toList = U.toList))) ∧ Below w.heap.size w w' := by
  obtain ⟨W, hW⟩ : ∃ W, W = w.alloc (rO k T n (.slice none 0 0)) := ⟨_, rfl⟩
  have HB := hid_of (show Below w.heap.size w W by rw [hW]; exact alb _ _)
  have x : W.heap[w.heap.size]? = some (rO k T n (.slice none 0 0)) := by rw [hW]; exact heap_alloc_new w _
  obtain ⟨⟨v0, v1, v2, v3⟩, -⟩ := box4 x
  have HW := hid_of hW
  clear hW x
  by_cases hk : k = 4
  · subst hk
    by_cases hn : T.toList = U.toList
    · have hb : (T.toList == U.toList) = true := by simpa using hn
      go_enter Tryz.func17, Tryz.ntmps17
      go_wp2_with fail
      rw [← HW.out]
      go_wp2_with fail
      exact bodyPost_ret (v := .bool true) (by simp [results, Tryz.results17, go_sem, hn]) rfl ⟨by simp [hn], HB.out⟩
    · have hb : (T.toList == U.toList) = false := by simpa using hn
      go_enter Tryz.func17, Tryz.ntmps17
      go_wp2_with fail
      rw [← HW.out]
      go_wp2_with fail
      exact bodyPost_ret (v := .bool false) (by simp [results, Tryz.results17, go_sem, hn]) rfl ⟨by simp [hn], HB.out⟩
  · have hb : (k == 4) = false := by simpa using hk
    go_enter Tryz.func17, Tryz.ntmps17
    go_wp2_with fail
    rw [← HW.out]
    go_wp2_with fail
    exact bodyPost_ret (v := .bool false) (by simp [results, Tryz.results17, go_sem, hk]) rfl ⟨by simp [hk], HB.out⟩
/-- a space beside a box that a request's answer lies in -/
structure Aft (w0 W : World) (F : Nat → Prop) (b : Nat) (S : Sp) (w : World) (F' X' : Nat → Prop) : Prop where
  sp : SP F' X' b w S
  lo : Below w0.heap.size w0 w
  hi : ∀ k, F' k → w0.heap.size ≤ k
  stay : ∀ k, k < W.heap.size → ¬ F k → w.heap[k]? = W.heap[k]?
  new : ∀ k, F' k → F k ∨ W.heap.size ≤ k
  size : W.heap.size ≤ w.heap.size
theorem aft {F X : Nat → Prop} {b : Nat} {w0 W V w3 w4 : World} {S S' : Sp} (h0 : SP F X b W S) (lo : Below w0.heap.size w0 W) (hi : ∀ k, F k → w0.heap.size ≤ k) (hb : Below W.heap.size W V)
    (h : Dn F (fun k => X k ∨ QPut.Tmp W V k) b V w3 S') (e : Ev (QPut.Tmp W V) w3 w4) {p : Nat} (hp : QPut.Tmp W V p ∨ (w3.heap.size ≤ p ∧ p < w4.heap.size)) :
    ∃ F' X', Aft w0 W F b S' w4 F' X' ∧ ¬ F' p ∧ p < w4.heap.size := by
  obtain ⟨F', s, ev, n⟩ := h
  have nt : ∀ k, F' k → ¬ QPut.Tmp W V k := fun k q t => by
    unfold QPut.Tmp at t
    rcases n k q with q | q
    · have := h0.lo k q; omega
    · omega
  have e1 : Ev F W w3 := (Ev.of_below hb : Ev F W V).trans ev
  have eW : Ev F W w4 := ⟨e.os.trans e1.os, e.tape.trans e1.tape, e.output.trans e1.output, Nat.le_trans e1.size e.size, fun k hk hn => (e.block k (Nat.lt_of_lt_of_le hk e1.size) (fun t => by unfold QPut.Tmp at t; omega)).trans (e1.block k hk hn)⟩
  refine ⟨F', fun k => X k ∨ F' k, ⟨s.re (fun k q => e.block k (s.lo k q) (nt k q)) (e.mono fun k _ q => .inl (.inr q)) (fun k _ q => q.elim (fun q => .inl (.inl q)) .inr) (fun k q => .inr q) (fun k q => q.elim (fun q => Nat.lt_of_lt_of_le (s.xl k (.inl (.inl q))) e.size) (fun q => Nat.lt_of_lt_of_le (s.lo k q) e.size)), ?_, ?_, eW.block, fun k q => (n k q).imp id (fun q => Nat.le_trans hb.size q), eW.size⟩, ?_, ?_⟩
  · have q := eW.below (base := w0.heap.size) lo.size hi
    exact lo.trans q
  · exact fun k q => (n k q).elim (hi k) (fun q => Nat.le_trans (Nat.le_trans lo.size hb.size) q)
  · intro q
    rcases hp with t | t
    · exact nt p q t
    · have := s.lo p q; omega
  · rcases hp with t | t
    · unfold QPut.Tmp at t
      have := ev.size
      have := e.size
      omega
    · exact t.2
end Go.Proofs.YtiofnocmibjepaaGreatDoor.QNum
end
section
namespace Go.Proofs.YtiofnocmibjepaaGreatDoor.QBegun
open Go.RowKit Go.Maps
open Go.Proofs.YtiofnocmibjepaaGreatDoor.SpaceMath
open Go.Proofs.YtiofnocmibjepaaGreatDoor.Base (mk mk_list mk_size Gr hid_of SL)
open Go.Proofs.YtiofnocmibjepaaGreatDoor.Turn
open Go.Proofs.YtiofnocmibjepaaGreatDoor.Vals
open Go.Proofs.YtiofnocmibjepaaGreatDoor.Check0 (Wel)
open Go.Proofs.YtiofnocmibjepaaGreatDoor.SBase
open Go.Proofs.YtiofnocmibjepaaGreatDoor.SFind (alb)
open Go.Proofs.YtiofnocmibjepaaGreatDoor.QCmd
open Go.Proofs.YtiofnocmibjepaaGreatDoor.QPut
open Go.Proofs.YtiofnocmibjepaaGreatDoor.QDocA
open Go.Proofs.YtiofnocmibjepaaGreatDoor.QNum
set_option linter.unusedVariables false
set_option linter.unusedSimpArgs false
abbrev stO (K T : ByteArray) (d : Int) : Obj := .cells #[.string K, .int .i64 1, .string T, nl, nl, nl, .int .i64 d] 42
abbrev S1 (k T : SBase.Bs) (d : Int) : Sp := pS ⟨[], 0, none⟩ k T d
set_option maxRecDepth 100000 in
set_option maxHeartbeats 4000000 in
theorem begun_call (k : SBase.Bs) (hk : k.length ≤ 281474976710656) (T : SBase.Bs) (hT : T.length ≤ 1048576) (d : Int) (hd : 0 ≤ d ∧ d ≤ 9007199254740992) {w : World} {g : Nat} (hg : w.heap[g]? = some (stO (mk k) (mk T) d)) :
    Calls Tryz.prog 10 #[.slice (some ⟨g, 0, none⟩) 1 1] w fun e w' => ∃ bx F X, e = .returned (.tuple #[ptr w.heap.size, ptr bx]) ∧ SP F X w.heap.size w' (S1 k T d) ∧ Below w.heap.size w w' ∧ (∀ j, F j → w.heap.size ≤ j) := by
  have hgl := lt_of hg
  have HG := hid_of hg
  have HN := hid_of (STouch.new_call w)
  clear hg
  have HPu := hid_of fun (F X : Nat → Prop) (b : Nat) (V : World) (h : SP F X b V ⟨[], 0, none⟩) => SPut.put_ok h rfl (by decide) (by decide) k hk (va_s T V) (wel_s hT) (small_s T) (chk_s hT) d hd
  have HDo := hid_of fun (V : World) (bx : Nat) (h : V.heap[bx]? = some (dO nl ((0 : Nat) : Int))) => QDocP.put_call h (by decide) (mk k) T hT d hd
  generalize hKK : mk k = KK at *
  generalize hTT : mk T = TT at *
  clear hKK hTT
  go_enter Tryz.func10, Tryz.ntmps10
  go_wp2_with fail
  refine HN.out.mono ?_
  rintro e w1 ⟨F, rfl, hsp, hb1, hF⟩
  obtain ⟨W2, hW2⟩ : ∃ W2, W2 = w1.alloc (dO nl ((0 : Nat) : Int)) := ⟨_, rfl⟩
  have b2 : Below w1.heap.size w1 W2 := by rw [hW2]; exact alb _ _
  have x2 : W2.heap[w1.heap.size]? = some (dO nl ((0 : Nat) : Int)) := by rw [hW2]; exact heap_alloc_new w1 _
  have hw1 : w.heap.size ≤ w1.heap.size := hb1.size
  have HNg := hid_of (show ¬ F g from fun q => by have := hF g q; omega)
  have HSP := hid_of hsp
  have HB1 := hid_of hb1
  have HF := hid_of hF
  have HB2 := hid_of b2
  have HX2 := hid_of x2
  have HW2 := hid_of hW2
  have hg2 := (b2.block _ (Nat.lt_of_lt_of_le hgl hw1)).trans ((hb1.block _ hgl).trans HG.out)
  have HG2 := hid_of hg2
  have t0 : QPut.Tmp w1 W2 w1.heap.size := ⟨Nat.le_refl _, lt_of x2⟩
  have hgb : g ≠ w1.heap.size := by omega
  clear hW2 b2 x2 hsp hb1 hF HN
  go_wp2_with fail
  rw [show w1.alloc (dO nl 0) = W2 from HW2.out.symm]
  go_loopg [6] 1 (fun gk s6 wx => (gk = 1 ∧ s6 = .int .i64 0 ∧ W2 = wx) ∨ (gk = 0 ∧ s6 = .int .i64 1 ∧ Hid (∃ F' X', Aft w w1 F w.heap.size (S1 k T d) wx F' X')))
  case atStart => exact .inl ⟨rfl, rfl, rfl⟩
  case round =>
    rcases hrel with ⟨rfl, rfl, hw⟩ | ⟨rfl, rfl, HE⟩
    · subst hw
      have s0 : W2.drew.cell? ⟨g, 0, none⟩ = some (.string KK) ∧ W2.drew.cell? ⟨g, 1, none⟩ = some (.int .i64 1) ∧ W2.drew.cell? ⟨g, 2, none⟩ = some (.string TT) ∧ W2.drew.cell? ⟨g, 3, none⟩ = some nl ∧ W2.drew.cell? ⟨g, 4, none⟩ = some nl ∧ W2.drew.cell? ⟨g, 5, none⟩ = some nl ∧ W2.drew.cell? ⟨g, 6, none⟩ = some (.int .i64 d) := (box7 hg2).1
      clear hg2
      go_wp2_with fail
      go_region_held3 (fun V => V.cell? ⟨g, 0, none⟩ = some (.string KK) ∧ V.cell? ⟨g, 1, none⟩ = some (.int .i64 1) ∧ V.cell? ⟨g, 2, none⟩ = some (.string TT) ∧ V.cell? ⟨g, 3, none⟩ = some nl ∧ V.cell? ⟨g, 4, none⟩ = some nl ∧ V.cell? ⟨g, 5, none⟩ = some nl ∧ V.cell? ⟨g, 6, none⟩ = some (.int .i64 d)) (first | with_reducible exact s0 | with_reducible exact s1 | with_reducible exact s2) (first
        | (go_at_call 22; refine (HPu.out _ _ _ _ ((sp_wide HSP.out HB2.out).below (Below.refl _ W2).drew)).mono ?_; rintro e w3 ⟨rfl, d3⟩; have D3 := hid_of (SDrop.dn_after (Below.refl _ W2).drew d3); have X3 := hid_of ((dn_block HSP.out HB2.out D3.out t0).trans HX2.out); have G3 := hid_of (show w3.heap[g]? = some (stO KK TT d) from (by obtain ⟨F', s, ev, n⟩ := D3.out; exact (ev.block g (lt_of HG2.out) HNg.out).trans HG2.out)); have s1 : w3.cell? ⟨g, 0, none⟩ = some (.string KK) ∧ w3.cell? ⟨g, 1, none⟩ = some (.int .i64 1) ∧ w3.cell? ⟨g, 2, none⟩ = some (.string TT) ∧ w3.cell? ⟨g, 3, none⟩ = some nl ∧ w3.cell? ⟨g, 4, none⟩ = some nl ∧ w3.cell? ⟨g, 5, none⟩ = some nl ∧ w3.cell? ⟨g, 6, none⟩ = some (.int .i64 d) := (box7 G3.out).1; clear d3)
        | (go_at_call 23; refine (HDo.out _ _ X3.out).mono ?_; rintro e w4 ⟨rfl, ev4⟩; have E4 := hid_of ev4; have s2 : w4.cell? ⟨g, 0, none⟩ = some (.string KK) ∧ w4.cell? ⟨g, 1, none⟩ = some (.int .i64 1) ∧ w4.cell? ⟨g, 2, none⟩ = some (.string TT) ∧ w4.cell? ⟨g, 3, none⟩ = some nl ∧ w4.cell? ⟨g, 4, none⟩ = some nl ∧ w4.cell? ⟨g, 5, none⟩ = some nl ∧ w4.cell? ⟨g, 6, none⟩ = some (.int .i64 d) := (box7 ((ev4.block g (lt_of G3.out) hgb).trans G3.out)).1; clear ev4))
      have HA := hid_of (show ∃ F' X', Aft w w1 F w.heap.size (S1 k T d) w4 F' X' by
        obtain ⟨F', X', q, -, -⟩ := aft HSP.out HB1.out HF.out HB2.out D3.out (E4.out.mono fun j _ q => by rw [q]; exact t0) (.inl t0)
        exact ⟨F', X', q⟩)
      go_wp2_with fail
      go_roundg 0
      case measure => omega
      case rel => exact .inr ⟨rfl, rfl, HA⟩
    · go_wp2_with fail
      obtain ⟨F', X', q⟩ := HE.out
      exact bodyPost_ret (v := .tuple #[ptr w.heap.size, ptr w1.heap.size]) (by simp [results, Tryz.results10, go_sem]) rfl ⟨_, F', X', rfl, q.sp, q.lo, q.hi⟩
end Go.Proofs.YtiofnocmibjepaaGreatDoor.QBegun
end
