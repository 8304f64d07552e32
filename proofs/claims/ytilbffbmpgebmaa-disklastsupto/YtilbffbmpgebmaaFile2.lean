/- Synced, Sync, cut, Truncate, Append. -/
import Derived.Test.YtilbffbmpgebmaaFile
namespace Go.Proofs.Ytilbffbmpgebmaa.File2
open Go.RowKit Go.Maps
open Go.Proofs.Ytilbffbmpgebmaa.DiskMath
open Go.Proofs.Ytilbffbmpgebmaa.Base
open Go.Proofs.Ytilbffbmpgebmaa.Small
open Go.Proofs.Ytilbffbmpgebmaa.Find
open Go.Proofs.Ytilbffbmpgebmaa.File
set_option linter.unusedVariables false

/- some layout of this disk -/
def Has (base b : Nat) (d : Dk) (w : World) : Prop := ∃ y, DK base b y d w
theorem Has.below {base b : Nat} {d : Dk} {w w' : World} (h : Has base b d w) (hb : Below w.heap.size w w') : Has base b d w' := by
  obtain ⟨y, hy⟩ := h
  exact ⟨y, hy.below hb⟩
set_option maxHeartbeats 1000000 in
set_option maxRecDepth 100000 in
theorem synced_call (base b : Nat) (y : Lay) (d : Dk) (w : World) (h : DK base b y d w) (s : ByteArray) (hs : s.size ≤ 281474976710656) :
    Calls Try.prog 16 #[ptr b, .string s] w fun e w' => e = .returned (.tuple #[.int .i64 (d.synced (bs s)).1, .int .i64 (d.synced (bs s)).2]) ∧ Below w.heap.size w w' := by
  have H1 := hid_of (find_call base b y d w h s hs)
  have H := hid_of h
  by_cases ha : d.asked (bs s) = 0
  · obtain ⟨x, hx, _⟩ := asked_ok h.ok ha
    rw [findV_yes ha, ha] at H1
    have e1 : d.synced (bs s) = ((x.2 : Int), 0) := by unfold Dk.synced; rw [if_neg (by simp [ha]), hx]; rfl
    rw [e1]
    clear h ha e1
    unfold ptr at H1 ⊢
    go_enter Try.func16, Try.ntmps16
    go_wp2_with fail
    refine H1.out.mono ?_
    rintro e w1 ⟨rfl, b1⟩
    have q := (H.out.below b1).fl _ x hx
    have c0 : w1.cell? ⟨y.pos (d.file (bs s)), 1, none⟩ = some (.int .i64 x.2) := Lib.cell_of_heap q.blk 1
    have B := hid_of b1
    clear b1 q hx
    go_wp2_with fail
    go_ret2
    exact ⟨rfl, B.out⟩
  · have e1 : d.synced (bs s) = (0, d.asked (bs s)) := by unfold Dk.synced; rw [if_pos ha]
    have g1 : (d.asked (bs s) == 0) = false := by simpa using ha
    rw [findV_no ha] at H1
    rw [e1]
    clear h ha e1
    unfold ptr at H1 ⊢
    go_enter Try.func16, Try.ntmps16
    go_wp2_with fail
    refine H1.out.mono ?_
    rintro e w1 ⟨rfl, b1⟩
    go_wp2_with fail
    go_ret2
    exact ⟨rfl, b1⟩
/- the file of a name, behind a step -/
theorem file_at {base b : Nat} {y : Lay} {d : Dk} {w : World} (h : DK base b y d.fault.1 w) {name : Bs} (ha : d.asked name = 0) (ho : Ok d) : ∃ x, d.fault.1.files[d.file name]? = some x ∧ FileAt base w (y.pos (d.file name)) (y.tv (d.file name)) x := by
  obtain ⟨x, hx, _⟩ := asked_ok ho ha
  have e : d.fault.1.files[d.file name]? = some x := by rw [(fault_same d).1]; exact hx
  exact ⟨x, e, h.fl _ x e⟩
theorem upd_congr {d : Dk} {i : Nat} {x : Bs × Nat} (hx : d.files[i]? = some x) {f g : Bs × Nat → Bs × Nat} (h : f x = g x) : d.upd i f = d.upd i g := by
  unfold Dk.upd
  have : d.files.modify i f = d.files.modify i g := by
    apply List.ext_getElem?
    intro j
    rw [List.getElem?_modify, List.getElem?_modify]
    by_cases e : i = j
    · subst e
      simp [hx, h]
    · simp [e]
  rw [this]
set_option maxHeartbeats 1000000 in
set_option maxRecDepth 100000 in
theorem sync_call (base b : Nat) (y : Lay) (d : Dk) (w : World) (h : DK base b y d w) (s : ByteArray) (hs : s.size ≤ 281474976710656) (hst : StepC base b d) :
    Calls Try.prog 18 #[ptr b, .string s] w fun e w' => e = .returned (.int .i64 (d.sync (bs s)).2) ∧ Has base b (d.sync (bs s)).1 w' ∧ Ev DT base w w' := by
  have H := hid_of h
  by_cases ha : d.asked (bs s) = 0
  · have H1 := hid_of (begin_yes base b y d w h s hs ha hst)
    by_cases he : d.fault.2.2 = 0
    · have e1 : d.sync (bs s) = (d.fault.1.upd (d.file (bs s)) syncF, 0) := by unfold Dk.sync; rw [if_neg (by simp [ha])]; dsimp only; rw [if_pos he]
      rw [e1]
      rw [he] at H1
      have HA := hid_of ha
      clear h ha he e1
      unfold ptr at H1 ⊢
      go_enter Try.func18, Try.ntmps18
      go_wp2_with fail
      refine H1.out.mono ?_
      rintro e w1 ⟨rfl, ⟨pv, k1⟩, ev1⟩
      obtain ⟨x, hx, q⟩ := file_at k1 HA.out H.out.ok
      obtain ⟨a, c, hv⟩ := row_shape q.row
      have c0 : w1.cell? ⟨y.pos (d.file (bs s)), 0, none⟩ = some (.slice a x.1.length c) := by rw [← hv]; exact Lib.cell_of_heap q.blk 0
      have c1 : w1.cell? ⟨y.pos (d.file (bs s)), 1, none⟩ = some (.int .i64 x.2) := Lib.cell_of_heap q.blk 1
      have f1 : w1.frozen? ⟨y.pos (d.file (bs s)), 1, none⟩ = false := Lib.frozen_of_heap q.blk 1
      have K1 := hid_of k1
      have V1 := hid_of ev1
      have Q := hid_of q
      have HX := hid_of hx
      have HV := hid_of hv
      clear k1 ev1 q hx hv
      go_wp2_with fail
      go_ret
      refine ⟨rfl, ⟨_, DK.turn1 K1.out (d.file (bs s)) x HX.out syncF (y.tv (d.file (bs s))) (fun k hk h1 h2 => set_ne h1 _) (by rw [size_set]; exact Nat.le_refl _) ⟨?_, ?_, Q.out.low, Nat.le_refl _, Q.out.big⟩ (fun q hq => Or.inl hq)⟩, V1.out.trans (Ev.set Q.out.blk Q.out.low rfl _)⟩
      · exact set_at Q.out.blk _
      · refine row_later Q.out.row fun g hg => set_ne (fun e => ?_) _
        have := (row_kd Q.out.row hg).1
        rw [e, kd_cells Q.out.blk] at this
        cases this
    · have e1 : d.sync (bs s) = (d.fault.1, d.fault.2.2) := by unfold Dk.sync; rw [if_neg (by simp [ha])]; dsimp only; rw [if_neg he]
      have g1 : (d.fault.2.2 == 0) = false := by simpa using he
      rw [e1]
      clear h ha he e1
      unfold ptr at H1 ⊢
      go_enter Try.func18, Try.ntmps18
      go_wp2_with fail
      refine H1.out.mono ?_
      rintro e w1 ⟨rfl, ⟨pv, k1⟩, ev1⟩
      have K1 := hid_of k1
      have V1 := hid_of ev1
      clear k1 ev1
      go_wp2_with fail
      go_ret
      exact ⟨rfl, ⟨_, K1.out⟩, V1.out⟩
  · have H1 := hid_of (begin_no base b y d w h s hs ha)
    have e1 : d.sync (bs s) = (d, d.asked (bs s)) := by unfold Dk.sync; rw [if_pos ha]
    have g1 : (d.asked (bs s) == 0) = false := by simpa using ha
    rw [e1]
    clear h ha e1
    unfold ptr at H1 ⊢
    go_enter Try.func18, Try.ntmps18
    go_wp2_with fail
    refine H1.out.mono ?_
    rintro e w1 ⟨rfl, b1⟩
    have B := hid_of b1
    clear b1
    go_wp2_with fail
    go_ret
    exact ⟨rfl, ⟨_, H.out.below B.out⟩, Ev.of_below B.out⟩
/- cut -/
set_option maxRecDepth 100000 in
theorem row_cut {base : Nat} {w : World} {v : Value} {t : Bs} (h : w.ownsRow base 5 1 v t.length (Lib.strCells (mk t))) (n : Nat) (hn : n ≤ t.length) :
    ∃ a c, w.ownsRow base 5 1 (.slice a n c) (t.take n).length (Lib.strCells (mk (t.take n))) ∧ (Value.slice a n c).ownBlock = v.ownBlock ∧ ∀ W, (Instr.slice 84 v none (some (.int .i64 (n : Int))) none).run Try.prog W = .ok (.slice a n c) W := by
  have hl : (t.take n).length = n := by rw [List.length_take]; omega
  have und : Try.prog.underlying 84 = some (.slice (Try.prog.elem 84)) := by kernel_rfl
  have el : Try.prog.elem 84 = 5 := by kernel_rfl
  have hc : Lib.strCells (mk (t.take n)) = (Lib.strCells (mk t)).take n := by
    show ((t.take n).toArray.toList.map _) = (t.toArray.toList.map _).take n
    simp
  rcases h.2 with ⟨rfl, h0⟩ | ⟨g, cap, cur, rfl, hb, hg, h1, h2, h3, h4⟩
  · have : n = 0 := by omega
    subst this
    refine ⟨none, 0, ⟨by simp [Lib.strCells, mk], Or.inl ⟨rfl, hl⟩⟩, rfl, fun W => ?_⟩
    rw [h0] at *
    rw [run_slice_h (P := Try.prog) W 84 none 0 0 und .i64 ((0 : Nat) : Int) (by omega) (by omega), el, Try.sizeOf5]
    rfl
  · refine ⟨some ⟨g, 0, none⟩, cap, ⟨?_, Or.inr ⟨g, cap, cur, by rw [hl], hb, hg, by omega, h2, h3, ?_⟩⟩, rfl, fun W => ?_⟩
    · rw [Lib.strCells_length, mk_size]; omega
    · rw [hc, ← h4, hl, List.take_take]
      congr 1
      omega
    · rw [run_slice_h (P := Try.prog) W 84 (some ⟨g, 0, none⟩) t.length cap und .i64 (n : Int) (by omega) (by omega), el, Try.sizeOf5]
      show Result.ok (sliced _ 0 ((n : Int)).toNat cap 1) W = _
      unfold sliced
      by_cases e : cap = 0
      · simp [e]
      · simp [Addr.add]
set_option maxHeartbeats 1000000 in
set_option maxRecDepth 100000 in
theorem cut_call (base : Nat) (f : Nat) (tv : Value) (x : Bs × Nat) (n : Nat) (w : World) (q : FileAt base w f tv x) (hn : n ≤ x.1.length) :
    Calls Try.prog 46 #[ptr f, .int .i64 (n : Int)] w fun e w' => e = .returned (.tuple #[]) ∧ ∃ tv', FileAt base w' f tv' (cutF n x) ∧ tv'.ownBlock = tv.ownBlock ∧ (∀ k, k ≠ f → w'.heap[k]? = w.heap[k]?) ∧ w'.heap.size = w.heap.size ∧ Ev DT base w w' := by
  obtain ⟨a1, c1, hr, ho, hsl⟩ := row_cut q.row n hn
  obtain ⟨a, c, hv⟩ := row_shape q.row
  have c0 : w.cell? ⟨f, 0, none⟩ = some (.slice a x.1.length c) := by rw [← hv]; exact Lib.cell_of_heap q.blk 0
  have f0 : w.frozen? ⟨f, 0, none⟩ = false := Lib.frozen_of_heap q.blk 0
  have c1' : w.cell? ⟨f, 1, none⟩ = some (.int .i64 x.2) := Lib.cell_of_heap q.blk 1
  have f1 : w.frozen? ⟨f, 1, none⟩ = false := Lib.frozen_of_heap q.blk 1
  have hq := hsl w
  rw [hv] at hq
  have e2 : min (x.2 : Int) (n : Int) = ((min x.2 n : Nat) : Int) := by omega
  have Q := hid_of q
  have HR := hid_of hr
  have HO := hid_of ho
  clear hr ho hsl q hv
  unfold ptr
  go_enter Try.func46, Try.ntmps46
  go_wp2_with fail
  go_end0
  have b1 := set_at (i := 0) Q.out.blk (.slice a1 n c1)
  have b2 := set_at (i := 1) b1 (.int .i64 ((min x.2 n : Nat) : Int))
  have hne : ∀ k, k ≠ f → ((w.setCell ⟨f, 0, none⟩ (.slice a1 n c1)).setCell ⟨f, 1, none⟩ (.int .i64 ((min x.2 n : Nat) : Int))).heap[k]? = w.heap[k]? := fun k hk => (set_ne hk _).trans (set_ne hk _)
  refine ⟨rfl, .slice a1 n c1, ⟨?_, row_later HR.out fun g hg => hne g (fun e => ?_), Q.out.low, ?_, ?_⟩, HO.out, hne, by rw [size_set, size_set], (Ev.set Q.out.blk Q.out.low rfl _).trans (Ev.set b1 Q.out.low rfl _)⟩
  · exact b2
  · have := (row_kd HR.out hg).1
    rw [e, kd_cells Q.out.blk] at this
    cases this
  · show min x.2 n ≤ (x.1.take n).length
    rw [List.length_take]; omega
  · show (x.1.take n).length ≤ _
    rw [List.length_take]
    have := Q.out.big
    omega
end Go.Proofs.Ytilbffbmpgebmaa.File2
