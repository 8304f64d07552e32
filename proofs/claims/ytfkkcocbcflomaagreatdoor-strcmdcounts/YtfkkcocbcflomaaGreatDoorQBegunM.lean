/- A space that begins with one text. A counter: what the requests on it answer and leave. -/
import Derived.Test.YtfkkcocbcflomaaGreatDoorQDocPM
import Derived.Test.YtfkkcocbcflomaaGreatDoorQAppM
import Derived.Deep.RegionHeld3
section
namespace Go.Proofs.YtfkkcocbcflomaaGreatDoor.QBegun
open Go.RowKit Go.Maps
open Go.Proofs.YtfkkcocbcflomaaGreatDoor.SpaceMath
open Go.Proofs.YtfkkcocbcflomaaGreatDoor.Base (mk mk_list mk_size Gr hid_of SL)
open Go.Proofs.YtfkkcocbcflomaaGreatDoor.Turn
open Go.Proofs.YtfkkcocbcflomaaGreatDoor.Vals
open Go.Proofs.YtfkkcocbcflomaaGreatDoor.Check0 (Wel)
open Go.Proofs.YtfkkcocbcflomaaGreatDoor.SBase
open Go.Proofs.YtfkkcocbcflomaaGreatDoor.SFind (alb)
open Go.Proofs.YtfkkcocbcflomaaGreatDoor.QCmd
open Go.Proofs.YtfkkcocbcflomaaGreatDoor.QPut
open Go.Proofs.YtfkkcocbcflomaaGreatDoor.QDocA
open Go.Proofs.YtfkkcocbcflomaaGreatDoor.QNum
set_option linter.unusedVariables false
set_option linter.unusedSimpArgs false
abbrev stO (K T : ByteArray) (d : Int) : Obj := .cells #[.string K, .int .i64 1, .string T, nl, nl, nl, .int .i64 d] 50
abbrev S1 (k T : SBase.Bs) (d : Int) : Sp := pS ⟨[], 0, none⟩ k T d
set_option maxRecDepth 100000 in
set_option maxHeartbeats 4000000 in
theorem begun_call (k : SBase.Bs) (hk : k.length ≤ 281474976710656) (T : SBase.Bs) (hT : T.length ≤ 1048576) (d : Int) (hd : 0 ≤ d ∧ d ≤ 9007199254740992) {w : World} {g : Nat} (hg : w.heap[g]? = some (stO (mk k) (mk T) d)) :
    Calls Tryz.prog 9 #[.slice (some ⟨g, 0, none⟩) 1 1] w fun e w' => ∃ bx F X, e = .returned (.tuple #[ptr w.heap.size, ptr bx]) ∧ SP F X w.heap.size w' (S1 k T d) ∧ Below w.heap.size w w' ∧ (∀ j, F j → w.heap.size ≤ j) := by
  have hgl := lt_of hg
  have HG := hid_of hg
  have HN := hid_of (STouch.new_call w)
  clear hg
  have HPu := hid_of fun (F X : Nat → Prop) (b : Nat) (V : World) (h : SP F X b V ⟨[], 0, none⟩) => SPut.put_ok h rfl (by decide) (by decide) k hk (va_s T V) (wel_s hT) (small_s T) (chk_s hT) d hd
  have HDo := hid_of fun (V : World) (bx : Nat) (h : V.heap[bx]? = some (dO nl ((0 : Nat) : Int))) => QDocP.put_call h (by decide) (mk k) T hT d hd
  generalize hKK : mk k = KK at *
  generalize hTT : mk T = TT at *
  clear hKK hTT
  go_enter Tryz.func9, Tryz.ntmps9
  go_wp2_with fail
  refine HN.out.mono ?_
  rintro e w1 ⟨F, rfl, hsp, hb1, hF⟩
  obtain ⟨W2, hW2⟩ : ∃ W2, W2 = w1.alloc (dO nl ((0 : Nat) : Int)) := ⟨_, rfl⟩
  have b2 : Below w1.heap.size w1 W2 := by rw [hW2]; exact alb _ _
  have x2 : W2.heap[w1.heap.size]? = some (dO nl ((0 : Nat) : Int)) := by rw [hW2]; exact heap_alloc_new w1 _
  have hw1 : w.heap.size ≤ w1.heap.size := hb1.size
  have HNg := hid_of (show ¬ F g from fun q => by have := hF g q; omega)
  have HSP := hid_of hsp
  have HB1 := hid_of hb1
  have HF := hid_of hF
  have HB2 := hid_of b2
  have HX2 := hid_of x2
  have HW2 := hid_of hW2
  have hg2 := (b2.block _ (Nat.lt_of_lt_of_le hgl hw1)).trans ((hb1.block _ hgl).trans HG.out)
  have HG2 := hid_of hg2
  have t0 : QPut.Tmp w1 W2 w1.heap.size := ⟨Nat.le_refl _, lt_of x2⟩
  have hgb : g ≠ w1.heap.size := by omega
  clear hW2 b2 x2 hsp hb1 hF HN
  go_wp2_with fail
  rw [show w1.alloc (dO nl 0) = W2 from HW2.out.symm]
  go_loopg [6] 1 (fun gk s6 wx => (gk = 1 ∧ s6 = .int .i64 0 ∧ W2 = wx) ∨ (gk = 0 ∧ s6 = .int .i64 1 ∧ Hid (∃ F' X', Aft w w1 F w.heap.size (S1 k T d) wx F' X')))
  case atStart => exact .inl ⟨rfl, rfl, rfl⟩
  case round =>
    rcases hrel with ⟨rfl, rfl, hw⟩ | ⟨rfl, rfl, HE⟩
    · subst hw
      have s0 : W2.drew.cell? ⟨g, 0, none⟩ = some (.string KK) ∧ W2.drew.cell? ⟨g, 1, none⟩ = some (.int .i64 1) ∧ W2.drew.cell? ⟨g, 2, none⟩ = some (.string TT) ∧ W2.drew.cell? ⟨g, 3, none⟩ = some nl ∧ W2.drew.cell? ⟨g, 4, none⟩ = some nl ∧ W2.drew.cell? ⟨g, 5, none⟩ = some nl ∧ W2.drew.cell? ⟨g, 6, none⟩ = some (.int .i64 d) := (box7 hg2).1
      clear hg2
      go_wp2_with fail
      go_region_held3 (fun V => V.cell? ⟨g, 0, none⟩ = some (.string KK) ∧ V.cell? ⟨g, 1, none⟩ = some (.int .i64 1) ∧ V.cell? ⟨g, 2, none⟩ = some (.string TT) ∧ V.cell? ⟨g, 3, none⟩ = some nl ∧ V.cell? ⟨g, 4, none⟩ = some nl ∧ V.cell? ⟨g, 5, none⟩ = some nl ∧ V.cell? ⟨g, 6, none⟩ = some (.int .i64 d)) (first | with_reducible exact s0 | with_reducible exact s1 | with_reducible exact s2) (first
        | (go_at_call 29; refine (HPu.out _ _ _ _ ((sp_wide HSP.out HB2.out).below (Below.refl _ W2).drew)).mono ?_; rintro e w3 ⟨rfl, d3⟩; have D3 := hid_of (SDrop.dn_after (Below.refl _ W2).drew d3); have X3 := hid_of ((dn_block HSP.out HB2.out D3.out t0).trans HX2.out); have G3 := hid_of (show w3.heap[g]? = some (stO KK TT d) from (by obtain ⟨F', s, ev, n⟩ := D3.out; exact (ev.block g (lt_of HG2.out) HNg.out).trans HG2.out)); have s1 : w3.cell? ⟨g, 0, none⟩ = some (.string KK) ∧ w3.cell? ⟨g, 1, none⟩ = some (.int .i64 1) ∧ w3.cell? ⟨g, 2, none⟩ = some (.string TT) ∧ w3.cell? ⟨g, 3, none⟩ = some nl ∧ w3.cell? ⟨g, 4, none⟩ = some nl ∧ w3.cell? ⟨g, 5, none⟩ = some nl ∧ w3.cell? ⟨g, 6, none⟩ = some (.int .i64 d) := (box7 G3.out).1; clear d3)
        | (go_at_call 30; refine (HDo.out _ _ X3.out).mono ?_; rintro e w4 ⟨rfl, ev4⟩; have E4 := hid_of ev4; have s2 : w4.cell? ⟨g, 0, none⟩ = some (.string KK) ∧ w4.cell? ⟨g, 1, none⟩ = some (.int .i64 1) ∧ w4.cell? ⟨g, 2, none⟩ = some (.string TT) ∧ w4.cell? ⟨g, 3, none⟩ = some nl ∧ w4.cell? ⟨g, 4, none⟩ = some nl ∧ w4.cell? ⟨g, 5, none⟩ = some nl ∧ w4.cell? ⟨g, 6, none⟩ = some (.int .i64 d) := (box7 ((ev4.block g (lt_of G3.out) hgb).trans G3.out)).1; clear ev4))
      have HA := hid_of (show ∃ F' X', Aft w w1 F w.heap.size (S1 k T d) w4 F' X' by
        obtain ⟨F', X', q, -, -⟩ := aft HSP.out HB1.out HF.out HB2.out D3.out (E4.out.mono fun j _ q => by rw [q]; exact t0) (.inl t0)
        exact ⟨F', X', q⟩)
      go_wp2_with fail
      go_roundg 0
      case measure => omega
      case rel => exact .inr ⟨rfl, rfl, HA⟩
    · go_wp2_with fail
      obtain ⟨F', X', q⟩ := HE.out
      exact bodyPost_ret (v := .tuple #[ptr w.heap.size, ptr w1.heap.size]) (by simp [results, Tryz.results9, go_sem]) rfl ⟨_, F', X', rfl, q.sp, q.lo, q.hi⟩
end Go.Proofs.YtfkkcocbcflomaaGreatDoor.QBegun
end
section
namespace Go.Proofs.YtfkkcocbcflomaaGreatDoor.QCntM
open Go.RowKit Go.Maps
open Go.Lib (itoa)
open Go.Proofs.YtfkkcocbcflomaaGreatDoor.TextMath
open Go.Proofs.YtfkkcocbcflomaaGreatDoor.SpaceMath (wout withL lkp keys Ris toD)
open Go.Proofs.YtfkkcocbcflomaaGreatDoor.Base (mk mk_list mk_size Gr hid_of SL)
open Go.Proofs.YtfkkcocbcflomaaGreatDoor.Turn
open Go.Proofs.YtfkkcocbcflomaaGreatDoor.Vals
open Go.Proofs.YtfkkcocbcflomaaGreatDoor.SBase
open Go.Proofs.YtfkkcocbcflomaaGreatDoor.SFind (alb)
open Go.Proofs.YtfkkcocbcflomaaGreatDoor.QBase
open Go.Proofs.YtfkkcocbcflomaaGreatDoor.QCmd
open Go.Proofs.YtfkkcocbcflomaaGreatDoor.QPut
open Go.Proofs.YtfkkcocbcflomaaGreatDoor.QAdd
open Go.Proofs.YtfkkcocbcflomaaGreatDoor.QInc
open Go.Proofs.YtfkkcocbcflomaaGreatDoor.QNum
open Go.Proofs.YtfkkcocbcflomaaGreatDoor.QDo
open Go.Proofs.YtfkkcocbcflomaaGreatDoor.QAwake
open Go.Proofs.YtfkkcocbcflomaaGreatDoor.Parse (Has)
set_option linter.unusedVariables false
set_option linter.unusedSimpArgs false
def Sn (v : Int) (c : Nat) : Sp := ⟨[([110], ⟨sV (itoa v), 9, c + 1⟩)], c + 1, none⟩
theorem sn_begun (v : Int) : QBegun.S1 [110] (itoa v) 9 = Sn v 0 := by rfl
theorem sn_gt (v : Int) (c : Nat) : gt (Sn v c) 5 [110] = some ⟨sV (itoa v), 9, c + 1⟩ := by
  unfold gt
  rw [show lkp (Sn v c).l [110] = some ⟨sV (itoa v), 9, c + 1⟩ from rfl]
  simp [Option.filter, SFind.seenB]
theorem sn_sa (v : Int) (c : Nat) : sa (gt (Sn v c) 5 [110]) = ⟨itoa v, true, false⟩ := by
  rw [sn_gt]
  simp [sa]
theorem sn_due (v : Int) (c : Nat) : dueV (Sn v c) 5 [110] = 9 := by
  unfold dueV
  rw [sn_gt]
  rfl
theorem sn_put (v u : Int) (c : Nat) : pS (Sn v c) [110] (itoa u) 9 = Sn u (c + 1) := by rfl
theorem sn_room (v : Int) (c : Nat) (h : c < 9223372036854775808) : Room (Sn v c) := ⟨rfl, by show c + 1 + 1 < _; omega, by show 1 + 1 < _; omega⟩
theorem add_in {v x : Int} (c : Nat) (hv : InI v) (h : InI (v + x)) : addM (Sn v c) 5 [110] x = ((3, ⟨#[]⟩, v + x), Sn (v + x) (c + 1)) := by
  unfold addM
  rw [sn_sa, sn_due]
  have e : incM (itoa v) x = .num (v + x) := by
    unfold incM
    rw [prs_itoa hv]
    have h1 : (decide (-9223372036854775808 ≤ v + x) && decide (v + x ≤ 9223372036854775807)) = true := by
      have := h.1; have := h.2
      simp; omega
    simp only [h1, if_true]
  simp only [Bool.false_eq_true, if_false, if_true, e, sn_put]
theorem add_out {v x : Int} (c : Nat) (hv : InI v) (h : ¬ InI (v + x)) : addM (Sn v c) 5 [110] x = ((2, overB, 0), Sn v c) := by
  unfold addM
  rw [sn_sa]
  have e : incM (itoa v) x = .over := by
    unfold incM
    rw [prs_itoa hv]
    have h1 : (decide (-9223372036854775808 ≤ v + x) && decide (v + x ≤ 9223372036854775807)) = false := by
      unfold InI at h
      simp; omega
    simp only [h1, Bool.false_eq_true, if_false]
  simp only [Bool.false_eq_true, if_false, if_true, e]
theorem inc_in {v x : Int} (c : Nat) (hv : InI v) (hx : InI x) (h : InI (v + x)) : incrByM (Sn v c) 5 [110] (itoa x) = ((3, ⟨#[]⟩, v + x), Sn (v + x) (c + 1)) := by
  unfold incrByM
  rw [prs_itoa hx]
  exact add_in c hv h
theorem inc_out {v x : Int} (c : Nat) (hv : InI v) (hx : InI x) (h : ¬ InI (v + x)) : incrByM (Sn v c) 5 [110] (itoa x) = ((2, overB, 0), Sn v c) := by
  unfold incrByM
  rw [prs_itoa hx]
  exact add_out c hv h
theorem dec_in {v x : Int} (c : Nat) (hv : InI v) (hx : InI x) (h0 : x ≠ -9223372036854775808) (h : InI (v + -x)) : decrByM (Sn v c) 5 [110] (itoa x) = ((3, ⟨#[]⟩, v + -x), Sn (v + -x) (c + 1)) := by
  unfold decrByM
  rw [prs_itoa hx]
  simp only [h0, if_false]
  exact add_in c hv h
abbrev li (x : Int) : List Base.El := [[105, 110, 99, 114, 98, 121], [110], itoa x]
abbrev ld (x : Int) : List Base.El := [[100, 101, 99, 114, 98, 121], [110], itoa x]
theorem bl3 {x : Int} (h : InI x) {a b : Base.El} (ha : a.length ≤ 30) (hb : b.length ≤ 30) : ∀ y ∈ [a, b, itoa x], y.length ≤ 140737488351232 := fun y hy => by
  have := itoa_len x h
  simp only [List.mem_cons, List.not_mem_nil, or_false] at hy
  rcases hy with rfl | rfl | rfl <;> omega
theorem rqi {x : Int} (h : InI x) : Rq (li x) 82 := ⟨by kernel_rfl, by show 0 < 3; omega, by show 3 < _; omega, bl3 h (by decide) (by decide), by kernel_rfl⟩
theorem rqd {x : Int} (h : InI x) : Rq (ld x) 74 := ⟨by kernel_rfl, by show 0 < 3; omega, by show 3 < _; omega, bl3 h (by decide) (by decide), by kernel_rfl⟩
abbrev rowI (x : Int) : Obj := .cells #[.string ⟨#[105, 110, 99, 114, 98, 121]⟩, .string ⟨#[110]⟩, .string ⟨(itoa x).toArray⟩] 9
abbrev rowD (x : Int) : Obj := .cells #[.string ⟨#[100, 101, 99, 114, 98, 121]⟩, .string ⟨#[110]⟩, .string ⟨(itoa x).toArray⟩] 9
section
variable {F X : Nat → Prop} {b : Nat} {w : World}
theorem req_in {v x : Int} {c : Nat} (h : SP F X b w (Sn v c)) (hc : c < 9223372036854775808) (hh : Has w) (hv : InI v) (hx : InI x) (hs : InI (v + x)) {q : Nat} (hq : w.heap[q]? = some (rowI x)) :
    Calls Tryz.prog 11 #[ptr b, .int .i64 5, .slice (some ⟨q, 0, none⟩) 3 3] w fun e w' => e = .returned (.tuple #[rp 3 ⟨#[]⟩ (v + x), .bool true]) ∧ Dn F X b w w' (Sn (v + x) (c + 1)) := by
  have H := run_incrby h (sn_room v c hc) hh 5 (sl_row (li x) hq) (rqi hx) (by show 2 < 3; omega)
  rw [show (li x)[1] = [110] from rfl, show (li x)[2] = itoa x from rfl, inc_in c hv hx hs] at H
  exact H
theorem req_out {v x : Int} {c : Nat} (h : SP F X b w (Sn v c)) (hc : c < 9223372036854775808) (hh : Has w) (hv : InI v) (hx : InI x) (hs : ¬ InI (v + x)) {q : Nat} (hq : w.heap[q]? = some (rowI x)) :
    Calls Tryz.prog 11 #[ptr b, .int .i64 5, .slice (some ⟨q, 0, none⟩) 3 3] w fun e w' => e = .returned (.tuple #[rp 2 overB 0, .bool true]) ∧ Dn F X b w w' (Sn v c) := by
  have H := run_incrby h (sn_room v c hc) hh 5 (sl_row (li x) hq) (rqi hx) (by show 2 < 3; omega)
  rw [show (li x)[1] = [110] from rfl, show (li x)[2] = itoa x from rfl, inc_out c hv hx hs] at H
  exact H
theorem req_dec {v x : Int} {c : Nat} (h : SP F X b w (Sn v c)) (hc : c < 9223372036854775808) (hh : Has w) (hv : InI v) (hx : InI x) (h0 : x ≠ -9223372036854775808) (hs : InI (v + -x)) {q : Nat} (hq : w.heap[q]? = some (rowD x)) :
    Calls Tryz.prog 11 #[ptr b, .int .i64 5, .slice (some ⟨q, 0, none⟩) 3 3] w fun e w' => e = .returned (.tuple #[rp 3 ⟨#[]⟩ (v + -x), .bool true]) ∧ Dn F X b w w' (Sn (v + -x) (c + 1)) := by
  have H := run_decrby h (sn_room v c hc) hh 5 (sl_row (ld x) hq) (rqd hx) (by show 2 < 3; omega)
  rw [show (ld x)[1] = [110] from rfl, show (ld x)[2] = itoa x from rfl, dec_in c hv hx h0 hs] at H
  exact H
end
end Go.Proofs.YtfkkcocbcflomaaGreatDoor.QCntM
end
