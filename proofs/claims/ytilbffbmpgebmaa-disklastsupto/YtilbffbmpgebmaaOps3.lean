/- Truncate, Remove, Steps, Down. -/
import Derived.Test.YtilbffbmpgebmaaOps2
namespace Go.Proofs.Ytilbffbmpgebmaa.Ops3
open Go.RowKit Go.Maps
open Go.Proofs.Ytilbffbmpgebmaa.DiskMath
open Go.Proofs.Ytilbffbmpgebmaa.Base
open Go.Proofs.Ytilbffbmpgebmaa.Small
open Go.Proofs.Ytilbffbmpgebmaa.Find
open Go.Proofs.Ytilbffbmpgebmaa.File
open Go.Proofs.Ytilbffbmpgebmaa.File2
open Go.Proofs.Ytilbffbmpgebmaa.Append
open Go.Proofs.Ytilbffbmpgebmaa.Names
open Go.Proofs.Ytilbffbmpgebmaa.Settle
open Go.Proofs.Ytilbffbmpgebmaa.Ops
open Go.Proofs.Ytilbffbmpgebmaa.Ops2
set_option linter.unusedVariables false

set_option maxRecDepth 100000 in
theorem steps_call (base b : Nat) (y : Lay) (d : Dk) (w : World) (h : DK base b y d w) : Calls Try.prog 25 #[ptr b] w fun e w' => e = .returned (.int .i64 (d.steps : Int)) ∧ w' = w := by
  have c4 : w.cell? ⟨b, 4, none⟩ = some (.int .i64 d.steps) := h.cell 4
  clear h
  unfold ptr
  go_enter Try.func25, Try.ntmps25
  go_wp2_with fail
  go_ret
  exact ⟨rfl, rfl⟩
set_option maxRecDepth 100000 in
theorem down_call (base b : Nat) (y : Lay) (d : Dk) (w : World) (h : DK base b y d w) : Calls Try.prog 24 #[ptr b] w fun e w' => e = .returned (.bool d.down) ∧ w' = w := by
  have c5 : w.cell? ⟨b, 5, none⟩ = some (.bool d.down) := h.cell 5
  clear h
  unfold ptr
  go_enter Try.func24, Try.ntmps24
  go_wp2_with fail
  go_ret
  exact ⟨rfl, rfl⟩
set_option maxHeartbeats 2000000 in
set_option maxRecDepth 100000 in
theorem trunc_call (base b : Nat) (y : Lay) (d : Dk) (w : World) (h : DK base b y d w) (s : ByteArray) (n : Int) (hs : s.size ≤ 281474976710656) (hst : StepC base b d) :
    Calls Try.prog 29 #[ptr b, .string s, .int .i64 n] w fun e w' => e = .returned (.int .i64 (d.trunc (bs s) n).2) ∧ Has base b (d.trunc (bs s) n).1 w' ∧ Ev DT base w w' := by
  have H := hid_of h
  by_cases ha : d.asked (bs s) = 0
  · have H1 := hid_of (begin_yes base b y d w h s hs ha hst)
    by_cases he : d.fault.2.2 = 0
    · have e1 : d.trunc (bs s) n = (d.fault.1.upd (d.file (bs s)) (fun x => cutF (DiskMath.within n x.1.length) x), 0) := by unfold Dk.trunc; rw [if_neg (by simp [ha])]; dsimp only; rw [if_pos he]
      rw [e1]
      rw [he] at H1
      have HA := hid_of ha
      clear h ha he e1
      unfold ptr at H1 ⊢
      go_enter Try.func29, Try.ntmps29
      go_wp2_with fail
      refine H1.out.mono ?_
      rintro e w1 ⟨rfl, ⟨pv, k1⟩, ev1⟩
      obtain ⟨x, hx, q⟩ := file_at k1 HA.out H.out.ok
      obtain ⟨a, c, hv⟩ := row_shape q.row
      have c0 : w1.cell? ⟨y.pos (d.file (bs s)), 0, none⟩ = some (.slice a x.1.length c) := by rw [← hv]; exact Lib.cell_of_heap q.blk 0
      have HW := hid_of (within_call n x.1.length w1)
      have HC := hid_of (cut_call base (y.pos (d.file (bs s))) (y.tv (d.file (bs s))) x (DiskMath.within n x.1.length) w1 q (within_le _ _))
      unfold ptr at HC
      have K1 := hid_of k1
      have V1 := hid_of ev1
      have HX := hid_of hx
      clear k1 ev1 q hx hv
      go_wp2_with fail
      refine HW.out.mono ?_
      rintro e w2 ⟨rfl, hw2⟩
      subst hw2
      go_wp2_with fail
      refine HC.out.mono ?_
      rintro e w3 ⟨rfl, tv', q3, o3, k3, s3, ev3⟩
      have E3 := hid_of (And.intro q3 (And.intro o3 (And.intro k3 (And.intro s3 ev3))))
      clear q3 o3 k3 s3 ev3
      go_wp2_with fail
      go_ret
      obtain ⟨q3, o3, k3, s3, ev3⟩ := E3.out
      refine ⟨rfl, ⟨_, DK.turn1 K1.out (d.file (bs s)) x HX.out (fun x => cutF (DiskMath.within n x.1.length) x) tv' (fun k hk h1 h2 => k3 k h1) (by rw [s3]; exact Nat.le_refl _) q3 (fun k hk2 => Or.inl (o3 ▸ hk2))⟩, V1.out.trans ev3⟩
    · have e1 : d.trunc (bs s) n = (d.fault.1, d.fault.2.2) := by unfold Dk.trunc; rw [if_neg (by simp [ha])]; dsimp only; rw [if_neg he]
      have g1 : (d.fault.2.2 == 0) = false := by simpa using he
      rw [e1]
      clear h ha he e1
      unfold ptr at H1 ⊢
      go_enter Try.func29, Try.ntmps29
      go_wp2_with fail
      refine H1.out.mono ?_
      rintro e w1 ⟨rfl, ⟨pv, k1⟩, ev1⟩
      have K1 := hid_of k1
      have V1 := hid_of ev1
      clear k1 ev1
      go_wp2_with fail
      go_ret
      exact ⟨rfl, ⟨_, K1.out⟩, V1.out⟩
  · have H1 := hid_of (begin_no base b y d w h s hs ha)
    have e1 : d.trunc (bs s) n = (d, d.asked (bs s)) := by unfold Dk.trunc; rw [if_pos ha]
    have g1 : (d.asked (bs s) == 0) = false := by simpa using ha
    rw [e1]
    clear h ha e1
    unfold ptr at H1 ⊢
    go_enter Try.func29, Try.ntmps29
    go_wp2_with fail
    refine H1.out.mono ?_
    rintro e w1 ⟨rfl, b1⟩
    have B := hid_of b1
    clear b1
    go_wp2_with fail
    go_ret
    exact ⟨rfl, ⟨_, H.out.below B.out⟩, Ev.of_below B.out⟩
set_option maxHeartbeats 2000000 in
set_option maxRecDepth 100000 in
theorem remove_call (base b : Nat) (y : Lay) (d : Dk) (w : World) (h : DK base b y d w) (s : ByteArray) (hs : s.size ≤ 281474976710656) (hst : StepC base b d) (hs40 : d.steps + 1 < 1099511627776) :
    Calls Try.prog 31 #[ptr b, .string s] w fun e w' => e = .returned (.int .i64 (d.remove (bs s)).2) ∧ Has base b (d.remove (bs s)).1 w' ∧ Ev DT base w w' := by
  have H := hid_of h
  by_cases ha : d.asked (bs s) = 0
  · have H1 := hid_of (begin_yes base b y d w h s hs ha hst)
    by_cases he : d.fault.2.2 = 0
    · have e1 : d.remove (bs s) = (d.fault.1.turn (.drop (bs s)), 0) := by unfold Dk.remove; rw [if_neg (by simp [ha])]; dsimp only; rw [if_pos he]
      have hfs := fault_same d
      have hcok : COk d.fault.1.files.length (.drop (bs s)) := ⟨asked_ne ha, by rw [len_bs]; exact hs⟩
      have H3 := hid_of (fun w2 y2 (k2 : DK base b y2 d.fault.1 w2) => alter_call base b y2 d.fault.1 w2 k2 (.drop (bs s)) hcok (by rw [hfs.2.2.2.2]; exact hs40) (by rw [hfs.2.1, hfs.2.2.2.2]; have := h.ok.nlen; omega) (by rw [hfs.2.2.1, hfs.2.2.2.1, hfs.2.2.2.2]; have := h.ok.llen; omega))
      have ech : ∀ y2 : Lay, chVal y2.pos (.drop (bs s)) = .agg #[.string s, .string ⟨#[]⟩, .pointer none] := fun y2 => by
        unfold chVal
        show Value.agg #[.string (mk (bs s)), .string (mk []), .pointer none] = _
        rw [mk_bs]
        rfl
      rw [e1]
      rw [he] at H1
      clear h hst e1 ha he hfs hcok
      unfold ptr at H1 ⊢
      go_enter Try.func31, Try.ntmps31
      go_wp2_with fail
      refine H1.out.mono ?_
      rintro e w2 ⟨rfl, ⟨pv, k2⟩, ev2⟩
      have H4 := hid_of (H3.out w2 _ k2)
      rw [ech _] at H4
      unfold ptr at H4
      have V := hid_of ev2
      clear k2 ev2 ech
      go_wp2_with fail
      refine H4.out.mono ?_
      rintro e w3 ⟨rfl, ⟨ov, k4⟩, ev4⟩
      have K4 := hid_of k4
      have V4 := hid_of ev4
      clear k4 ev4
      go_wp2_with fail
      go_ret
      exact ⟨rfl, ⟨_, K4.out⟩, V.out.trans V4.out⟩
    · have e1 : d.remove (bs s) = (d.fault.1, d.fault.2.2) := by unfold Dk.remove; rw [if_neg (by simp [ha])]; dsimp only; rw [if_neg he]
      have g1 : (d.fault.2.2 == 0) = false := by simpa using he
      rw [e1]
      clear h ha he e1
      unfold ptr at H1 ⊢
      go_enter Try.func31, Try.ntmps31
      go_wp2_with fail
      refine H1.out.mono ?_
      rintro e w1 ⟨rfl, ⟨pv, k1⟩, ev1⟩
      have K1 := hid_of k1
      have V1 := hid_of ev1
      clear k1 ev1
      go_wp2_with fail
      go_ret
      exact ⟨rfl, ⟨_, K1.out⟩, V1.out⟩
  · have H1 := hid_of (begin_no base b y d w h s hs ha)
    have e1 : d.remove (bs s) = (d, d.asked (bs s)) := by unfold Dk.remove; rw [if_pos ha]
    have g1 : (d.asked (bs s) == 0) = false := by simpa using ha
    rw [e1]
    clear h ha e1
    unfold ptr at H1 ⊢
    go_enter Try.func31, Try.ntmps31
    go_wp2_with fail
    refine H1.out.mono ?_
    rintro e w1 ⟨rfl, b1⟩
    have B := hid_of b1
    clear b1
    go_wp2_with fail
    go_ret
    exact ⟨rfl, ⟨_, H.out.below B.out⟩, Ev.of_below B.out⟩
end Go.Proofs.Ytilbffbmpgebmaa.Ops3
