/- Commands on strings: numbers added to. The laws' small parts: whether an answer is a number, a text; what a request leaves beside a box. A space that begins with one text. Commands on lists: what their small calls answer; boxes beside a space. -/
import Derived.Test.YtpibeabokedpdaaGreatDoorQCmdM
import Derived.Test.YtpibeabokedpdaaGreatDoorRRnkM
import Derived.Deep.RegionHeld3
import Derived.Test.YtpibeabokedpdaaGreatDoorQDocPM
import Derived.Test.YtpibeabokedpdaaGreatDoorDecM
import Derived.Test.YtpibeabokedpdaaGreatDoorTextMathM
section
namespace Go.Proofs.YtpibeabokedpdaaGreatDoor.QAdd
open Go.RowKit Go.Maps
open Go.Lib (decDigits itoa)
open Go.Proofs.YtpibeabokedpdaaGreatDoor.TextMath
open Go.Proofs.YtpibeabokedpdaaGreatDoor.SpaceMath (wout withL lkp keys Ris toD)
open Go.Proofs.YtpibeabokedpdaaGreatDoor.ValueMath (Vl chk small)
open Go.Proofs.YtpibeabokedpdaaGreatDoor.Base (mk mk_list mk_size Gr hid_of SL)
open Go.Proofs.YtpibeabokedpdaaGreatDoor.Turn
open Go.Proofs.YtpibeabokedpdaaGreatDoor.Vals
open Go.Proofs.YtpibeabokedpdaaGreatDoor.Check0 (Wel)
open Go.Proofs.YtpibeabokedpdaaGreatDoor.SBase
open Go.Proofs.YtpibeabokedpdaaGreatDoor.SFind
open Go.Proofs.YtpibeabokedpdaaGreatDoor.QBase
open Go.Proofs.YtpibeabokedpdaaGreatDoor.QCmd
open Go.Proofs.YtpibeabokedpdaaGreatDoor.QPut
open Go.Proofs.YtpibeabokedpdaaGreatDoor.BIncr
open Go.Proofs.YtpibeabokedpdaaGreatDoor.Parse (Has)
set_option linter.unusedVariables false
set_option linter.unusedSimpArgs false
/-- the number that a text is -/
def prs (l : Bs) : Option Int := match Lib.atoiAll l with
  | .ok v => if itoa v = l then some v else none
  | _ => none
theorem prs_some {l : Bs} {v : Int} (h : prs l = some v) : textB v l = true := by
  unfold prs at h
  split at h
  · rename_i u hu
    split at h
    · rename_i hi
      cases h
      exact (text_iff _ _).2 ⟨Lib.atoiAll_bounds hu, hi⟩
    · cases h
  · cases h
theorem prs_none {l : Bs} (h : prs l = none) : ∀ v, textB v l = false := fun v => by
  cases q : textB v l with
  | false => rfl
  | true =>
    exfalso
    have q' := (text_iff _ _).1 q
    have := atoi_itoa v q'.1
    rw [q'.2] at this
    unfold prs at h
    rw [this] at h
    simp [q'.2] at h
theorem prs_itoa {v : Int} (h : InI v) : prs (itoa v) = some v := by
  unfold prs
  rw [atoi_itoa v h]
  simp
theorem in_iff {x : Int} : (decide (-9223372036854775808 ≤ x) && decide (x ≤ 9223372036854775807)) = true ↔ InI x := by
  unfold InI
  simp
inductive Inc where
  | num (v : Int)
  | over
  | none
def incM (l : Bs) (d : Int) : Inc := match prs l with
  | some v => if (decide (-9223372036854775808 ≤ v + d) && decide (v + d ≤ 9223372036854775807)) = true then .num (v + d) else .over
  | none => .none
theorem inc_num {l : Bs} {d v : Int} (h : incM l d = .num v) : BIncr.Told l d ⟨(itoa v).toArray⟩ v 0 ∧ InI v := by
  unfold incM at h
  cases e : prs l with
  | none => rw [e] at h; cases h
  | some u =>
    rw [e] at h
    simp only at h
    split at h
    · rename_i q
      cases h
      have q' : InI (u + d) := in_iff.1 q
      exact ⟨.inl ⟨u, prs_some e, q', rfl, rfl, rfl⟩, q'⟩
    · cases h
theorem inc_over {l : Bs} {d : Int} (h : incM l d = .over) : BIncr.Told l d ByteArray.empty 0 11 := by
  unfold incM at h
  cases e : prs l with
  | none => rw [e] at h; cases h
  | some u =>
    rw [e] at h
    simp only at h
    split at h
    · cases h
    · rename_i q
      exact .inr (.inl ⟨u, prs_some e, fun q' => q (in_iff.2 q'), rfl, rfl, rfl⟩)
theorem inc_none {l : Bs} {d : Int} (h : incM l d = .none) : BIncr.Told l d ByteArray.empty 0 10 := by
  unfold incM at h
  cases e : prs l with
  | none => exact .inr (.inr ⟨prs_none e, rfl, rfl, rfl⟩)
  | some u =>
    rw [e] at h
    simp only at h
    split at h <;> cases h
/-- what an addition answers, and leaves -/
def addM (S : Sp) (now : Int) (k : Bs) (d : Int) : (Int × ByteArray × Int) × Sp :=
  if (sa (gt S now k)).wrong then ((2, wrongB, 0), S) else
  match incM (if (sa (gt S now k)).there then (sa (gt S now k)).t else [48]) d with
  | .num v => ((3, ⟨#[]⟩, v), pS S k (itoa v) (dueV S now k))
  | .over => ((2, overB, 0), S)
  | .none => ((2, numB, 0), S)
abbrev rp3 (r : Int × ByteArray × Int) : Value := rp r.1 r.2.1 r.2.2
theorem itoa_len (v : Int) (h : InI v) : (itoa v).length ≤ 21 := by
  unfold itoa
  split
  · have := RPrint.dec_len (u := v.natAbs) (by obtain ⟨h1, h2⟩ := h; omega)
    simp
    omega
  · have := RPrint.dec_len (u := v.toNat) (by obtain ⟨h1, h2⟩ := h; omega)
    omega
theorem sl_cell {G : Nat → Prop} {w : World} {a : Option Addr} {L c : Nat} {l : List Base.El} (h : SL G w (.slice a L c) l) {j : Nat} (hj : j < l.length) : ∃ g o, a = some ⟨g, o, none⟩ ∧ w.cell? ⟨g, o + j, none⟩ = some (.string (mk l[j])) := Write.sl_at h hj
theorem sa_len {F X : Nat → Prop} {b : Nat} {w : World} {S : Sp} (h : SP F X b w S) (k : Bs) (now : Int) : (sa (gt S now k)).t.length ≤ 140737488351232 := by
  cases hg : gt S now k with
  | none => simp [sa]
  | some e =>
    obtain ⟨FI, bm, bi, mv, L, s, h⟩ := h
    have he := h.ent k
    rw [(gt_some hg).1] at he
    cases q : lkp L k with
    | none => rw [q] at he; exact absurd he (by simp [Two])
    | some v =>
      rw [q] at he
      have hc := (EnAt.gd he).chk
      unfold sa
      simp only
      split
      · rename_i h1
        unfold chk ValueMath.mayBe ValueMath.tOk at hc
        rw [h1] at hc
        simp at hc
        have := hc.2
        show e.val.text.length ≤ _
        omega
      · simp
section
variable {F X : Nat → Prop} {b : Nat} {w : World} {S : Sp}
end
end Go.Proofs.YtpibeabokedpdaaGreatDoor.QAdd
end
section
namespace Go.Proofs.YtpibeabokedpdaaGreatDoor.QNum
open Go.RowKit Go.Maps
open Go.Proofs.YtpibeabokedpdaaGreatDoor.SpaceMath
open Go.Proofs.YtpibeabokedpdaaGreatDoor.Base (mk mk_list mk_size Gr hid_of SL)
open Go.Proofs.YtpibeabokedpdaaGreatDoor.Turn
open Go.Proofs.YtpibeabokedpdaaGreatDoor.Vals
open Go.Proofs.YtpibeabokedpdaaGreatDoor.SBase
open Go.Proofs.YtpibeabokedpdaaGreatDoor.SFind (alb)
open Go.Proofs.YtpibeabokedpdaaGreatDoor.QBase
open Go.Proofs.YtpibeabokedpdaaGreatDoor.QCmd
open Go.Proofs.YtpibeabokedpdaaGreatDoor.QPut
open Go.Proofs.YtpibeabokedpdaaGreatDoor.QAdd
set_option linter.unusedVariables false
set_option linter.unusedSimpArgs false
structure Aft (w0 W : World) (F : Nat → Prop) (b : Nat) (S : Sp) (w : World) (F' X' : Nat → Prop) : Prop where
  sp : SP F' X' b w S
  lo : Below w0.heap.size w0 w
  hi : ∀ k, F' k → w0.heap.size ≤ k
  stay : ∀ k, k < W.heap.size → ¬ F k → w.heap[k]? = W.heap[k]?
  new : ∀ k, F' k → F k ∨ W.heap.size ≤ k
  size : W.heap.size ≤ w.heap.size
theorem aft {F X : Nat → Prop} {b : Nat} {w0 W V w3 w4 : World} {S S' : Sp} (h0 : SP F X b W S) (lo : Below w0.heap.size w0 W) (hi : ∀ k, F k → w0.heap.size ≤ k) (hb : Below W.heap.size W V)
    (h : Dn F (fun k => X k ∨ QPut.Tmp W V k) b V w3 S') (e : Ev (QPut.Tmp W V) w3 w4) {p : Nat} (hp : QPut.Tmp W V p ∨ (w3.heap.size ≤ p ∧ p < w4.heap.size)) :
    ∃ F' X', Aft w0 W F b S' w4 F' X' ∧ ¬ F' p ∧ p < w4.heap.size := by
  obtain ⟨F', s, ev, n⟩ := h
  have nt : ∀ k, F' k → ¬ QPut.Tmp W V k := fun k q t => by
    unfold QPut.Tmp at t
    rcases n k q with q | q
    · have := h0.lo k q; omega
    · omega
  have e1 : Ev F W w3 := (Ev.of_below hb : Ev F W V).trans ev
  have eW : Ev F W w4 := ⟨e.os.trans e1.os, e.tape.trans e1.tape, e.output.trans e1.output, Nat.le_trans e1.size e.size, fun k hk hn => (e.block k (Nat.lt_of_lt_of_le hk e1.size) (fun t => by unfold QPut.Tmp at t; omega)).trans (e1.block k hk hn)⟩
  refine ⟨F', fun k => X k ∨ F' k, ⟨s.re (fun k q => e.block k (s.lo k q) (nt k q)) (e.mono fun k _ q => .inl (.inr q)) (fun k _ q => q.elim (fun q => .inl (.inl q)) .inr) (fun k q => .inr q) (fun k q => q.elim (fun q => Nat.lt_of_lt_of_le (s.xl k (.inl (.inl q))) e.size) (fun q => Nat.lt_of_lt_of_le (s.lo k q) e.size)), ?_, ?_, eW.block, fun k q => (n k q).imp id (fun q => Nat.le_trans hb.size q), eW.size⟩, ?_, ?_⟩
  · have q := eW.below (base := w0.heap.size) lo.size hi
    exact lo.trans q
  · exact fun k q => (n k q).elim (hi k) (fun q => Nat.le_trans (Nat.le_trans lo.size hb.size) q)
  · intro q
    rcases hp with t | t
    · exact nt p q t
    · have := s.lo p q; omega
  · rcases hp with t | t
    · unfold QPut.Tmp at t
      have := ev.size
      have := e.size
      omega
    · exact t.2
end Go.Proofs.YtpibeabokedpdaaGreatDoor.QNum
end
section
namespace Go.Proofs.YtpibeabokedpdaaGreatDoor.QBegun
open Go.RowKit Go.Maps
open Go.Proofs.YtpibeabokedpdaaGreatDoor.SpaceMath
open Go.Proofs.YtpibeabokedpdaaGreatDoor.Base (mk mk_list mk_size Gr hid_of SL)
open Go.Proofs.YtpibeabokedpdaaGreatDoor.Turn
open Go.Proofs.YtpibeabokedpdaaGreatDoor.Vals
open Go.Proofs.YtpibeabokedpdaaGreatDoor.Check0 (Wel)
open Go.Proofs.YtpibeabokedpdaaGreatDoor.SBase
open Go.Proofs.YtpibeabokedpdaaGreatDoor.SFind (alb)
open Go.Proofs.YtpibeabokedpdaaGreatDoor.QCmd
open Go.Proofs.YtpibeabokedpdaaGreatDoor.QPut
open Go.Proofs.YtpibeabokedpdaaGreatDoor.QDocA
open Go.Proofs.YtpibeabokedpdaaGreatDoor.QNum
set_option linter.unusedVariables false
set_option linter.unusedSimpArgs false
abbrev stO (K T : ByteArray) (d : Int) : Obj := .cells #[.string K, .int .i64 1, .string T, nl, nl, nl, .int .i64 d] 42
abbrev S1 (k T : SBase.Bs) (d : Int) : Sp := pS ⟨[], 0, none⟩ k T d
set_option maxRecDepth 100000 in
set_option maxHeartbeats 4000000 in
theorem begun_call (k : SBase.Bs) (hk : k.length ≤ 281474976710656) (T : SBase.Bs) (hT : T.length ≤ 1048576) (d : Int) (hd : 0 ≤ d ∧ d ≤ 9007199254740992) {w : World} {g : Nat} (hg : w.heap[g]? = some (stO (mk k) (mk T) d)) :
    Calls Tryz.prog 10 #[.slice (some ⟨g, 0, none⟩) 1 1] w fun e w' => ∃ bx F X, e = .returned (.tuple #[ptr w.heap.size, ptr bx]) ∧ SP F X w.heap.size w' (S1 k T d) ∧ Below w.heap.size w w' ∧ (∀ j, F j → w.heap.size ≤ j) := by
  have hgl := lt_of hg
  have HG := hid_of hg
  have HN := hid_of (STouch.new_call w)
  clear hg
  have HPu := hid_of fun (F X : Nat → Prop) (b : Nat) (V : World) (h : SP F X b V ⟨[], 0, none⟩) => SPut.put_ok h rfl (by decide) (by decide) k hk (va_s T V) (wel_s hT) (small_s T) (chk_s hT) d hd
  have HDo := hid_of fun (V : World) (bx : Nat) (h : V.heap[bx]? = some (dO nl ((0 : Nat) : Int))) => QDocP.put_call h (by decide) (mk k) T hT d hd
  generalize hKK : mk k = KK at *
  generalize hTT : mk T = TT at *
  clear hKK hTT
  go_enter Tryz.func10, Tryz.ntmps10
  go_wp2_with fail
  refine HN.out.mono ?_
  rintro e w1 ⟨F, rfl, hsp, hb1, hF⟩
  obtain ⟨W2, hW2⟩ : ∃ W2, W2 = w1.alloc (dO nl ((0 : Nat) : Int)) := ⟨_, rfl⟩
  have b2 : Below w1.heap.size w1 W2 := by rw [hW2]; exact alb _ _
  have x2 : W2.heap[w1.heap.size]? = some (dO nl ((0 : Nat) : Int)) := by rw [hW2]; exact heap_alloc_new w1 _
  have hw1 : w.heap.size ≤ w1.heap.size := hb1.size
  have HNg := hid_of (show ¬ F g from fun q => by have := hF g q; omega)
  have HSP := hid_of hsp
  have HB1 := hid_of hb1
  have HF := hid_of hF
  have HB2 := hid_of b2
  have HX2 := hid_of x2
  have HW2 := hid_of hW2
  have hg2 := (b2.block _ (Nat.lt_of_lt_of_le hgl hw1)).trans ((hb1.block _ hgl).trans HG.out)
  have HG2 := hid_of hg2
  have t0 : QPut.Tmp w1 W2 w1.heap.size := ⟨Nat.le_refl _, lt_of x2⟩
  have hgb : g ≠ w1.heap.size := by omega
  clear hW2 b2 x2 hsp hb1 hF HN
  go_wp2_with fail
  rw [show w1.alloc (dO nl 0) = W2 from HW2.out.symm]
  go_loopg [6] 1 (fun gk s6 wx => (gk = 1 ∧ s6 = .int .i64 0 ∧ W2 = wx) ∨ (gk = 0 ∧ s6 = .int .i64 1 ∧ Hid (∃ F' X', Aft w w1 F w.heap.size (S1 k T d) wx F' X')))
  case atStart => exact .inl ⟨rfl, rfl, rfl⟩
  case round =>
    rcases hrel with ⟨rfl, rfl, hw⟩ | ⟨rfl, rfl, HE⟩
    · subst hw
      have s0 : W2.drew.cell? ⟨g, 0, none⟩ = some (.string KK) ∧ W2.drew.cell? ⟨g, 1, none⟩ = some (.int .i64 1) ∧ W2.drew.cell? ⟨g, 2, none⟩ = some (.string TT) ∧ W2.drew.cell? ⟨g, 3, none⟩ = some nl ∧ W2.drew.cell? ⟨g, 4, none⟩ = some nl ∧ W2.drew.cell? ⟨g, 5, none⟩ = some nl ∧ W2.drew.cell? ⟨g, 6, none⟩ = some (.int .i64 d) := (box7 hg2).1
      clear hg2
      go_wp2_with fail
      go_region_held3 (fun V => V.cell? ⟨g, 0, none⟩ = some (.string KK) ∧ V.cell? ⟨g, 1, none⟩ = some (.int .i64 1) ∧ V.cell? ⟨g, 2, none⟩ = some (.string TT) ∧ V.cell? ⟨g, 3, none⟩ = some nl ∧ V.cell? ⟨g, 4, none⟩ = some nl ∧ V.cell? ⟨g, 5, none⟩ = some nl ∧ V.cell? ⟨g, 6, none⟩ = some (.int .i64 d)) (first | with_reducible exact s0 | with_reducible exact s1 | with_reducible exact s2) (first
        | (go_at_call 24; refine (HPu.out _ _ _ _ ((sp_wide HSP.out HB2.out).below (Below.refl _ W2).drew)).mono ?_; rintro e w3 ⟨rfl, d3⟩; have D3 := hid_of (SDrop.dn_after (Below.refl _ W2).drew d3); have X3 := hid_of ((dn_block HSP.out HB2.out D3.out t0).trans HX2.out); have G3 := hid_of (show w3.heap[g]? = some (stO KK TT d) from (by obtain ⟨F', s, ev, n⟩ := D3.out; exact (ev.block g (lt_of HG2.out) HNg.out).trans HG2.out)); have s1 : w3.cell? ⟨g, 0, none⟩ = some (.string KK) ∧ w3.cell? ⟨g, 1, none⟩ = some (.int .i64 1) ∧ w3.cell? ⟨g, 2, none⟩ = some (.string TT) ∧ w3.cell? ⟨g, 3, none⟩ = some nl ∧ w3.cell? ⟨g, 4, none⟩ = some nl ∧ w3.cell? ⟨g, 5, none⟩ = some nl ∧ w3.cell? ⟨g, 6, none⟩ = some (.int .i64 d) := (box7 G3.out).1; clear d3)
        | (go_at_call 25; refine (HDo.out _ _ X3.out).mono ?_; rintro e w4 ⟨rfl, ev4⟩; have E4 := hid_of ev4; have s2 : w4.cell? ⟨g, 0, none⟩ = some (.string KK) ∧ w4.cell? ⟨g, 1, none⟩ = some (.int .i64 1) ∧ w4.cell? ⟨g, 2, none⟩ = some (.string TT) ∧ w4.cell? ⟨g, 3, none⟩ = some nl ∧ w4.cell? ⟨g, 4, none⟩ = some nl ∧ w4.cell? ⟨g, 5, none⟩ = some nl ∧ w4.cell? ⟨g, 6, none⟩ = some (.int .i64 d) := (box7 ((ev4.block g (lt_of G3.out) hgb).trans G3.out)).1; clear ev4))
      have HA := hid_of (show ∃ F' X', Aft w w1 F w.heap.size (S1 k T d) w4 F' X' by
        obtain ⟨F', X', q, -, -⟩ := aft HSP.out HB1.out HF.out HB2.out D3.out (E4.out.mono fun j _ q => by rw [q]; exact t0) (.inl t0)
        exact ⟨F', X', q⟩)
      go_wp2_with fail
      go_roundg 0
      case measure => omega
      case rel => exact .inr ⟨rfl, rfl, HA⟩
    · go_wp2_with fail
      obtain ⟨F', X', q⟩ := HE.out
      exact bodyPost_ret (v := .tuple #[ptr w.heap.size, ptr w1.heap.size]) (by simp [results, Tryz.results10, go_sem]) rfl ⟨_, F', X', rfl, q.sp, q.lo, q.hi⟩
end Go.Proofs.YtpibeabokedpdaaGreatDoor.QBegun
end
section
namespace Go.Proofs.YtpibeabokedpdaaGreatDoor.LCmd
open Go.RowKit Go.Maps
open Go.Proofs.YtpibeabokedpdaaGreatDoor.SpaceMath (wout withL lkp keys Ris toD)
open Go.Proofs.YtpibeabokedpdaaGreatDoor.ValueMath (Vl chk small)
open Go.Proofs.YtpibeabokedpdaaGreatDoor.Base (mk mk_list mk_size Gr hid_of SL)
open Go.Proofs.YtpibeabokedpdaaGreatDoor.Turn
open Go.Proofs.YtpibeabokedpdaaGreatDoor.Vals
open Go.Proofs.YtpibeabokedpdaaGreatDoor.Check0 (Wel)
open Go.Proofs.YtpibeabokedpdaaGreatDoor.SBase
open Go.Proofs.YtpibeabokedpdaaGreatDoor.SFind
open Go.Proofs.YtpibeabokedpdaaGreatDoor.SSet (box8)
open Go.Proofs.YtpibeabokedpdaaGreatDoor.SPut (vO)
open Go.Proofs.YtpibeabokedpdaaGreatDoor.QBase
open Go.Proofs.YtpibeabokedpdaaGreatDoor.Parse (Has)
open Go.Proofs.YtpibeabokedpdaaGreatDoor.TextMath
open Go.Lib (decDigits itoa)
set_option linter.unusedVariables false
set_option linter.unusedSimpArgs false
abbrev numB : ByteArray := ⟨#[69, 82, 82, 32, 97, 32, 110, 117, 109, 98, 101, 114, 32, 105, 115, 32, 119, 97, 110, 116, 101, 100]⟩
abbrev okB : ByteArray := ⟨#[79, 75]⟩
abbrev synB : ByteArray := ⟨#[69, 82, 82, 32, 115, 121, 110, 116, 97, 120]⟩
abbrev nokB : ByteArray := ⟨#[69, 82, 82, 32, 110, 111, 32, 115, 117, 99, 104, 32, 107, 101, 121]⟩
abbrev dlB : ByteArray := ⟨#[69, 82, 82, 32, 116, 104, 101, 32, 100, 101, 97, 100, 108, 105, 110, 101, 32, 109, 97, 121, 32, 110, 111, 116, 32, 98, 101]⟩
abbrev curB : ByteArray := ⟨#[69, 82, 82, 32, 116, 104, 101, 32, 99, 117, 114, 115, 111, 114, 32, 109, 97, 121, 32, 110, 111, 116, 32, 98, 101]⟩
abbrev busyB : ByteArray := ⟨#[66, 85, 83, 89, 75, 69, 89, 32, 116, 104, 101, 32, 107, 101, 121, 32, 105, 115, 32, 116, 104, 101, 114, 101]⟩
abbrev bytB : ByteArray := ⟨#[69, 82, 82, 32, 116, 104, 101, 32, 98, 121, 116, 101, 115, 32, 97, 114, 101, 32, 110, 111, 32, 118, 97, 108, 117, 101, 39, 115]⟩
abbrev arB : ByteArray := ⟨#[69, 82, 82, 32, 119, 114, 111, 110, 103, 32, 110, 117, 109, 98, 101, 114, 32, 111, 102, 32, 97, 114, 103, 117, 109, 101, 110, 116, 115, 58, 32, 112, 105, 110, 103]⟩
abbrev pongB : ByteArray := ⟨#[80, 79, 78, 71]⟩
abbrev rp (k : Int) (T : ByteArray) (n : Int) : Value := .agg #[.int .i64 k, .string T, .int .i64 n, .slice none 0 0]
abbrev rO (k : Int) (T : ByteArray) (n : Int) (L : Value) : Obj := .cells #[.int .i64 k, .string T, .int .i64 n, L] 28
theorem box4 {w : World} {b : Nat} {x0 x1 x2 x3 : Value} {t : TypeId} (h : w.heap[b]? = some (.cells #[x0, x1, x2, x3] t (0, 0))) :
    (w.cell? ⟨b, 0, none⟩ = some x0 ∧ w.cell? ⟨b, 1, none⟩ = some x1 ∧ w.cell? ⟨b, 2, none⟩ = some x2 ∧ w.cell? ⟨b, 3, none⟩ = some x3) ∧ ∀ i, w.frozen? ⟨b, i, none⟩ = false :=
  ⟨⟨Lib.cell_of_heap h 0, Lib.cell_of_heap h 1, Lib.cell_of_heap h 2, Lib.cell_of_heap h 3⟩, fun i => Lib.frozen_of_heap h i⟩
def fin4 (w : World) (q : Nat) (y0 y1 y2 y3 : Value) : World := (((w.setCell ⟨q, 0, none⟩ y0).setCell ⟨q, 1, none⟩ y1).setCell ⟨q, 2, none⟩ y2).setCell ⟨q, 3, none⟩ y3
theorem fin4_at {w : World} {q : Nat} {x0 x1 x2 x3 : Value} {t : TypeId} (h : w.heap[q]? = some (.cells #[x0, x1, x2, x3] t (0, 0))) (y0 y1 y2 y3 : Value) : (fin4 w q y0 y1 y2 y3).heap[q]? = some (.cells #[y0, y1, y2, y3] t (0, 0)) := by
  unfold fin4
  simpa using set_at (i := 3) (set_at (i := 2) (set_at (i := 1) (set_at (i := 0) h y0) y1) y2) y3
theorem fin4_b {B q : Nat} {w0 w : World} {y0 y1 y2 y3 : Value} (h : Below B w0 w) (hq : B ≤ q) : Below B w0 (fin4 w q y0 y1 y2 y3) := bset (bset (bset (bset h hq y0) hq y1) hq y2) hq y3
set_option maxRecDepth 100000 in
theorem refused_call (T : ByteArray) (w : World) : Calls Tryz.prog 65 #[.string T] w fun e w' => e = .returned (rp 2 T 0) ∧ Below w.heap.size w w' := by
  go_enter Tryz.func65, Tryz.ntmps65
  go_wp2_with fail
  exact bodyPost_ret (v := rp 2 T 0) (by simp [results, Tryz.results65, go_sem]) rfl ⟨rfl, alb _ _⟩
set_option maxRecDepth 100000 in
theorem count_call (n : Int) (w : World) : Calls Tryz.prog 72 #[.int .i64 n] w fun e w' => e = .returned (rp 3 ⟨#[]⟩ n) ∧ Below w.heap.size w w' := by
  go_enter Tryz.func72, Tryz.ntmps72
  go_wp2_with fail
  exact bodyPost_ret (v := rp 3 ⟨#[]⟩ n) (by simp [results, Tryz.results72, go_sem]) rfl ⟨rfl, alb _ _⟩
set_option maxRecDepth 100000 in
theorem bulk_call (T : ByteArray) (w : World) : Calls Tryz.prog 69 #[.string T] w fun e w' => e = .returned (rp 4 T 0) ∧ Below w.heap.size w w' := by
  go_enter Tryz.func69, Tryz.ntmps69
  go_wp2_with fail
  exact bodyPost_ret (v := rp 4 T 0) (by simp [results, Tryz.results69, go_sem]) rfl ⟨rfl, alb _ _⟩
set_option maxRecDepth 100000 in
theorem null_call  (w : World) : Calls Tryz.prog 68 #[] w fun e w' => e = .returned (rp 5 ⟨#[]⟩ 0) ∧ Below w.heap.size w w' := by
  go_enter Tryz.func68, Tryz.ntmps68
  go_wp2_with fail
  exact bodyPost_ret (v := rp 5 ⟨#[]⟩ 0) (by simp [results, Tryz.results68, go_sem]) rfl ⟨rfl, alb _ _⟩
abbrev cV (b : Nat) (now : Int) (a : Option Addr) (n c : Nat) : Value := .agg #[ptr b, .int .i64 now, .slice a n c]
abbrev cO (b : Nat) (now : Int) (a : Option Addr) (n c : Nat) : Obj := .cells #[ptr b, .int .i64 now, .slice a n c] 64
/- two boxes laid one behind the other -/
theorem two_boxes (w : World) (o1 o2 : Obj) (h1 : ∃ cs t, o1 = .cells cs t (0, 0)) : Below w.heap.size w ((w.alloc o1).alloc o2) ∧ ((w.alloc o1).alloc o2).heap[w.heap.size]? = some o1 ∧ ((w.alloc o1).alloc o2).heap[w.heap.size + 1]? = some o2 ∧ ((w.alloc o1).alloc o2).heap.size = w.heap.size + 2 := by
  refine ⟨FRow.bel (alb _ _) (alb _ _) (Nat.le_refl _), ?_, ?_, by simp⟩
  · rw [Below.heap_alloc _ _ _ (by simp)]
    exact heap_alloc_new w _
  · have := heap_alloc_new (w.alloc o1) o2
    simpa using this
theorem vn_form {B : Nat} {w : World} {v : Value} {x : Vl} (h : VN B w v x) : ∃ a n c a' n' c' a'' n'' c'', v = .agg #[.int .i64 x.kind, .string (mk x.text), .slice a n c, .slice a' n' c', .slice a'' n'' c''] := by
  obtain ⟨a, b, c, rfl, h1, h2, h3⟩ := h
  obtain ⟨a1, c1, rfl, _⟩ := h1.shape
  obtain ⟨a2, c2, rfl⟩ := shapeFRow h2
  obtain ⟨a3, c3, rfl⟩ := shapeERow h3
  exact ⟨_, _, _, _, _, _, _, _, _, rfl⟩
/- boxes of a call's own beside a space -/
abbrev Tmp (w W : World) (k : Nat) : Prop := w.heap.size ≤ k ∧ k < W.heap.size
section
variable {F X : Nat → Prop} {b : Nat} {w W w1 w2 : World} {S S' : Sp}
theorem sp_wide (h : SP F X b w S) (hb : Below w.heap.size w W) : SP F (fun k => X k ∨ Tmp w W k) b W S :=
  h.re (fun k q => hb.block k (h.lo k q)) (Ev.of_below hb) (fun k hk q => q.elim id (fun q => by unfold Tmp at q; omega)) (fun k q => .inl (h.fx k q)) (fun k q => q.elim (fun q => Nat.lt_of_lt_of_le (h.xl k q) hb.size) (fun q => q.2))
theorem dn_tmp (h0 : SP F X b w S) (hb : Below w.heap.size w W) (h : Dn F (fun k => X k ∨ Tmp w W k) b W w1 S') (e : Ev (Tmp w W) w1 w2) : Dn F X b w w2 S' := by
  obtain ⟨F', s, ev, n⟩ := h
  have nt : ∀ k, F' k → ¬ Tmp w W k := fun k q t => by
    unfold Tmp at t
    rcases n k q with q | q
    · have := h0.lo k q; omega
    · omega
  have eW : Ev F w W := Ev.of_below hb
  refine ⟨F', s.re (fun k q => e.block k (s.lo k q) (nt k q)) (e.mono fun k _ q => .inl (.inr q)) (fun k _ q => q.elim (fun q => .inl (.inl q)) .inr) (fun k q => .inr q) (fun k q => q.elim (fun q => Nat.lt_of_lt_of_le (s.xl k (.inl (.inl q))) e.size) (fun q => Nat.lt_of_lt_of_le (s.lo k q) e.size)), ?_, fun k q => (n k q).imp id (fun q => Nat.le_trans hb.size q)⟩
  have e1 : Ev F w w1 := eW.trans ev
  refine ⟨e.os.trans e1.os, e.tape.trans e1.tape, e.output.trans e1.output, Nat.le_trans e1.size e.size, fun k hk hn => (e.block k (Nat.lt_of_lt_of_le hk e1.size) (fun t => by unfold Tmp at t; omega)).trans (e1.block k hk hn)⟩
/-- what stands beside -/
theorem dn_block {Y : Nat → Prop} (h0 : SP F Y b w S) (hb : Below w.heap.size w W) (h : Dn F X b W w1 S') {k : Nat} (hk : Tmp w W k) : w1.heap[k]? = W.heap[k]? := by
  obtain ⟨F', s, ev, n⟩ := h
  exact ev.block k hk.2 (fun q => by have := h0.lo k q; unfold Tmp at hk; omega)
theorem dn_size (h : Dn F X b W w1 S') : W.heap.size ≤ w1.heap.size := by
  obtain ⟨F', s, ev, n⟩ := h
  exact ev.size
end
/-- a space that a step more may be done on -/
structure Room (S : Sp) : Prop where
  m : S.mrk = none
  c : S.cnt + 1 < 18446744073709551616
  n : S.l.length + 1 < 1099511627776
theorem three_boxes (w : World) (o1 o2 o3 : Obj) : Below w.heap.size w (((w.alloc o1).alloc o2).alloc o3) ∧ (((w.alloc o1).alloc o2).alloc o3).heap[w.heap.size]? = some o1 ∧ (((w.alloc o1).alloc o2).alloc o3).heap[w.heap.size + 1]? = some o2 ∧ (((w.alloc o1).alloc o2).alloc o3).heap[w.heap.size + 2]? = some o3 ∧ (((w.alloc o1).alloc o2).alloc o3).heap.size = w.heap.size + 3 := by
  refine ⟨FRow.bel (FRow.bel (alb _ _) (alb _ _) (Nat.le_refl _)) (alb _ _) (Nat.le_refl _), ?_, ?_, ?_, by simp⟩
  · rw [Below.heap_alloc _ _ _ (by simp; omega), Below.heap_alloc _ _ _ (by simp)]
    exact heap_alloc_new w _
  · rw [Below.heap_alloc _ _ _ (by simp)]
    have := heap_alloc_new (w.alloc o1) o2
    simpa using this
  · have := heap_alloc_new ((w.alloc o1).alloc o2) o3
    simpa using this
theorem ev_fin4 {w W w1 : World} {q : Nat} (hq : Tmp w W q) (y0 y1 y2 y3 : Value) : Ev (Tmp w W) w1 (fin4 w1 q y0 y1 y2 y3) := by
  unfold fin4
  exact (((Ev.set (M := Tmp w W) hq y0).trans (Ev.set (M := Tmp w W) hq y1)).trans (Ev.set (M := Tmp w W) hq y2)).trans (Ev.set (M := Tmp w W) hq y3)
theorem fin4_ne {w : World} {q k : Nat} (h : k ≠ q) {y0 y1 y2 y3 : Value} : (fin4 w q y0 y1 y2 y3).heap[k]? = w.heap[k]? := by
  unfold fin4
  rw [set_ne h, set_ne h, set_ne h, set_ne h]
theorem sl_get {G : Nat → Prop} {w : World} {a : Option Addr} {n c : Nat} {l : List Base.El} (h : SL G w (.slice a n c) l) : n = l.length ∧ ∀ i (hi : i < l.length), ∃ ga oa, a = some ⟨ga, oa, none⟩ ∧ w.cell? ⟨ga, oa + i, none⟩ = some (.string (mk l[i])) := by
  obtain ⟨a0, c0, e, hc, hr⟩ := h
  injection e with e1 e2 e3
  subst e1 e2 e3
  refine ⟨rfl, fun i hi => ?_⟩
  obtain ⟨g, o, eg, hG, hcs⟩ := Base.Rd.get hr (by omega)
  exact ⟨g, o, eg, hcs i l[i] (List.getElem?_eq_getElem hi)⟩
set_option maxRecDepth 100000 in
theorem ok_call (w : World) : Calls Tryz.prog 88 #[] w fun e w' => e = .returned (rp 1 okB 0) ∧ Below w.heap.size w w' := by
  go_enter Tryz.func88, Tryz.ntmps88
  go_wp2_with fail
  exact bodyPost_ret (v := rp 1 okB 0) (by simp [results, Tryz.results88, go_sem]) rfl ⟨rfl, alb _ _⟩
set_option maxRecDepth 100000 in
theorem noArray_call (w : World) : Calls Tryz.prog 163 #[] w fun e w' => e = .returned (rp 7 ⟨#[]⟩ 0) ∧ Below w.heap.size w w' := by
  go_enter Tryz.func163, Tryz.ntmps163
  go_wp2_with fail
  exact bodyPost_ret (v := rp 7 ⟨#[]⟩ 0) (by simp [results, Tryz.results163, go_sem]) rfl ⟨rfl, alb _ _⟩
set_option maxRecDepth 100000 in
theorem array_call (a : Option Addr) (n c : Nat) (w : World) : Calls Tryz.prog 80 #[.slice a n c] w fun e w' => e = .returned (.agg #[.int .i64 6, .string ⟨#[]⟩, .int .i64 0, .slice a n c]) ∧ Below w.heap.size w w' := by
  go_enter Tryz.func80, Tryz.ntmps80
  go_wp2_with fail
  exact bodyPost_ret (v := .agg #[.int .i64 6, .string ⟨#[]⟩, .int .i64 0, .slice a n c]) (by simp [results, Tryz.results80, go_sem]) rfl ⟨rfl, alb _ _⟩
/-- the number that a text is -/
def prs (l : Bs) : Option Int := match Lib.atoiAll l with
  | .ok v => if itoa v = l then some v else none
  | _ => none
theorem prs_some {l : Bs} {v : Int} (h : prs l = some v) : textB v l = true := by
  unfold prs at h
  split at h
  · rename_i u hu
    split at h
    · rename_i hi
      cases h
      exact (text_iff _ _).2 ⟨Lib.atoiAll_bounds hu, hi⟩
    · cases h
  · cases h
theorem prs_none {l : Bs} (h : prs l = none) : ∀ v, textB v l = false := fun v => by
  cases q : textB v l with
  | false => rfl
  | true =>
    exfalso
    have q' := (text_iff _ _).1 q
    have := atoi_itoa v q'.1
    rw [q'.2] at this
    unfold prs at h
    rw [this] at h
    simp [q'.2] at h
theorem prs_itoa {v : Int} (h : InI v) : prs (itoa v) = some v := by
  unfold prs
  rw [atoi_itoa v h]
  simp
theorem isE (T : ByteArray) (l : Bs) (h : T.data.toList = l) : T.toList.isEmpty = l.isEmpty := by
  rw [show T = mk l from by rw [← h]; rfl, mk_list]
set_option maxHeartbeats 1000000 in
set_option maxRecDepth 100000 in
theorem number_call (T : ByteArray) (hT : T.size ≤ 140737488351232) (w : World) (hh : Has w) :
    Calls Tryz.prog 64 #[.string T] w fun e w' => e = .returned (.tuple #[.int .i64 ((prs T.data.toList).getD 0), .string (if (prs T.data.toList).isSome then ⟨#[]⟩ else numB)]) ∧ Below w.heap.size w w' := by
  cases hp : prs T.data.toList with
  | some v =>
    have H := hid_of (Parse.parse_any T w v 0 hT (.inl ⟨prs_some hp, rfl⟩) hh)
    clear hT hh hp
    show Calls Tryz.prog 64 #[.string T] w fun e w' => e = .returned (.tuple #[.int .i64 v, .string ⟨#[]⟩]) ∧ Below w.heap.size w w'
    go_enter Tryz.func64, Tryz.ntmps64
    go_wp2_with fail
    refine H.out.mono ?_
    rintro e w1 ⟨rfl, b1⟩
    have B := hid_of b1
    clear b1
    go_wp2_with fail
    go_ret2
    exact ⟨rfl, B.out⟩
  | none =>
    have H := hid_of (Parse.parse_any T w 0 10 hT (.inr ⟨prs_none hp, rfl, rfl⟩) hh)
    clear hT hh hp
    show Calls Tryz.prog 64 #[.string T] w fun e w' => e = .returned (.tuple #[.int .i64 0, .string numB]) ∧ Below w.heap.size w w'
    go_enter Tryz.func64, Tryz.ntmps64
    go_wp2_with fail
    refine H.out.mono ?_
    rintro e w1 ⟨rfl, b1⟩
    have B := hid_of b1
    clear b1
    go_wp2_with fail
    go_ret2
    exact ⟨rfl, B.out⟩
end Go.Proofs.YtpibeabokedpdaaGreatDoor.LCmd
end
