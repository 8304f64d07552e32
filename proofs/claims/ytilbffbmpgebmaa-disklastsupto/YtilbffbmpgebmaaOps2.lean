/- Rename, Remove. -/
import Derived.Test.YtilbffbmpgebmaaOps
namespace Go.Proofs.Ytilbffbmpgebmaa.Ops2
open Go.RowKit Go.Maps
open Go.Proofs.Ytilbffbmpgebmaa.DiskMath
open Go.Proofs.Ytilbffbmpgebmaa.Base
open Go.Proofs.Ytilbffbmpgebmaa.Small
open Go.Proofs.Ytilbffbmpgebmaa.Find
open Go.Proofs.Ytilbffbmpgebmaa.File
open Go.Proofs.Ytilbffbmpgebmaa.File2
open Go.Proofs.Ytilbffbmpgebmaa.Append
open Go.Proofs.Ytilbffbmpgebmaa.Names
open Go.Proofs.Ytilbffbmpgebmaa.Settle
open Go.Proofs.Ytilbffbmpgebmaa.Ops
set_option linter.unusedVariables false

theorem str_ne {s t : ByteArray} (h : bs s ≠ bs t) : (s.toList == t.toList) = false := by
  rw [Lib.toList_data, Lib.toList_data]
  simpa [bs] using h
theorem asked_ne {d : Dk} {name : Bs} (h : d.asked name = 0) : name ≠ [] := by
  intro e
  unfold Dk.asked at h
  rw [if_pos e] at h
  split at h <;> cases h
theorem file_lt {d : Dk} (h : Ok d) {name : Bs} (ha : d.asked name = 0) : d.file name < d.files.length := by
  obtain ⟨x, hx, _⟩ := asked_ok h ha
  exact (List.getElem?_eq_some_iff.1 hx).1
set_option maxHeartbeats 2000000 in
set_option maxRecDepth 100000 in
theorem rename_call (base b : Nat) (y : Lay) (d : Dk) (w : World) (h : DK base b y d w) (s t : ByteArray) (hs : s.size ≤ 281474976710656) (ht : t.size ≤ 281474976710656) (hst : StepC base b d) (hs40 : d.steps + 1 < 1099511627776) :
    Calls Try.prog 30 #[ptr b, .string s, .string t] w fun e w' => e = .returned (.int .i64 (d.rename (bs s) (bs t)).2) ∧ Has base b (d.rename (bs s) (bs t)).1 w' ∧ Ev DT base w w' := by
  have h1 := h.alloc (.cells #[.string s, .string t] 9)
  have H1 := hid_of (refuse_any base b y d _ h1 _ _ (contains_two s t w.heap.size (w.alloc (.cells #[.string s, .string t] 9)) (Lib.cell_of_heap (heap_alloc_new w _) 0) (Lib.cell_of_heap (heap_alloc_new w _) 1)))
  have HB : Hid (Below w.heap.size w (w.alloc (.cells #[.string s, .string t] 9))) := (Below.refl _ w).alloc (Nat.le_refl _) _
  have er : (if d.down = true then (53 : Int) else if decide ([] ∈ [bs s, bs t]) = true then 1 else 0) = d.refuse [bs s, bs t] := by
    unfold Dk.refuse
    simp only [decide_eq_true_eq]
  rw [er] at H1
  have H := hid_of h
  have HK := hid_of h1
  by_cases hr : d.refuse [bs s, bs t] = 0
  · rw [hr] at H1
    by_cases ha : d.asked (bs s) = 0
    · have H2 := hid_of (begin_yes base b y d _ h1 s hs ha hst)
      by_cases he : d.fault.2.2 = 0
      · rw [he] at H2
        by_cases hab : bs s = bs t
        · have e1 : d.rename (bs s) (bs t) = (d.fault.1, 0) := by unfold Dk.rename; rw [hr, if_neg (by decide), ha, if_neg (by decide)]; dsimp only; rw [if_pos he, if_pos hab]
          obtain rfl : s = t := of_bs hab
          rw [e1]
          clear h h1 hst e1 er hr ha he hab
          unfold ptr at H1 H2 ⊢
          go_enter Try.func30, Try.ntmps30
          go_wp2_with fail
          refine H1.out.mono ?_
          rintro e w1 ⟨rfl, rfl⟩
          go_wp2_with fail
          refine H2.out.mono ?_
          rintro e w2 ⟨rfl, ⟨pv, k2⟩, ev2⟩
          have K := hid_of k2
          have V := hid_of ((Ev.of_below HB.out).trans ev2)
          clear k2 ev2
          go_wp2_with fail
          go_ret
          exact ⟨rfl, ⟨_, K.out⟩, V.out⟩
        · have e1 : d.rename (bs s) (bs t) = (d.fault.1.turn (.move (bs s) (bs t) (d.file (bs s))), 0) := by unfold Dk.rename; rw [hr, if_neg (by decide), ha, if_neg (by decide)]; dsimp only; rw [if_pos he, if_neg hab]
          have hfs := fault_same d
          have hne : bs s ≠ [] ∧ bs t ≠ [] := by
            unfold Dk.refuse at hr
            split at hr
            · cases hr
            · split at hr
              · cases hr
              · rename_i hm
                exact ⟨fun e => hm (by rw [e]; simp), fun e => hm (by rw [e]; simp)⟩
          have hcok : COk d.fault.1.files.length (.move (bs s) (bs t) (d.file (bs s))) := ⟨hne.1, hne.2, by rw [hfs.1]; exact file_lt h.ok ha, by rw [len_bs]; exact hs, by rw [len_bs]; exact ht⟩
          have H3 := hid_of (fun w2 y2 (k2 : DK base b y2 d.fault.1 w2) => alter_call base b y2 d.fault.1 w2 k2 (.move (bs s) (bs t) (d.file (bs s))) hcok (by rw [hfs.2.2.2.2]; exact hs40) (by rw [hfs.2.1, hfs.2.2.2.2]; have := h.ok.nlen; omega) (by rw [hfs.2.2.1, hfs.2.2.2.1, hfs.2.2.2.2]; have := h.ok.llen; omega))
          have ech : ∀ y2 : Lay, y2.pos = y.pos → chVal y2.pos (.move (bs s) (bs t) (d.file (bs s))) = .agg #[.string s, .string t, .pointer (some ⟨y.pos (d.file (bs s)), 0, none⟩)] := fun y2 e => by
            unfold chVal
            show Value.agg #[.string (mk (bs s)), .string (mk (bs t)), ptr (y2.pos (d.file (bs s)))] = _
            rw [mk_bs, mk_bs, e]
            rfl
          have g1 := str_ne hab
          rw [e1]
          clear h h1 hst e1 er hr ha he hab hfs hne hcok
          unfold ptr at H1 H2 ⊢
          go_enter Try.func30, Try.ntmps30
          go_wp2_with fail
          refine H1.out.mono ?_
          rintro e w1 ⟨rfl, rfl⟩
          go_wp2_with fail
          refine H2.out.mono ?_
          rintro e w2 ⟨rfl, ⟨pv, k2⟩, ev2⟩
          have H4 := hid_of (H3.out w2 _ k2)
          rw [ech _ rfl] at H4
          unfold ptr at H4
          have V := hid_of ((Ev.of_below HB.out).trans ev2)
          clear k2 ev2 ech
          go_wp2_with fail
          refine H4.out.mono ?_
          rintro e w3 ⟨rfl, ⟨ov, k4⟩, ev4⟩
          have K4 := hid_of k4
          have V4 := hid_of ev4
          clear k4 ev4
          go_wp2_with fail
          go_ret
          exact ⟨rfl, ⟨_, K4.out⟩, V.out.trans V4.out⟩
      · have e1 : d.rename (bs s) (bs t) = (d.fault.1, d.fault.2.2) := by unfold Dk.rename; rw [hr, if_neg (by decide), ha, if_neg (by decide)]; dsimp only; rw [if_neg he]
        have g1 : (d.fault.2.2 == 0) = false := by simpa using he
        rw [e1]
        clear h h1 hst e1 er hr ha he
        unfold ptr at H1 H2 ⊢
        go_enter Try.func30, Try.ntmps30
        go_wp2_with fail
        refine H1.out.mono ?_
        rintro e w1 ⟨rfl, rfl⟩
        go_wp2_with fail
        refine H2.out.mono ?_
        rintro e w2 ⟨rfl, ⟨pv, k2⟩, ev2⟩
        have K := hid_of k2
        have V := hid_of ((Ev.of_below HB.out).trans ev2)
        clear k2 ev2
        go_wp2_with fail
        go_ret
        exact ⟨rfl, ⟨_, K.out⟩, V.out⟩
    · have H2 := hid_of (begin_no base b y d _ h1 s hs ha)
      have e1 : d.rename (bs s) (bs t) = (d, d.asked (bs s)) := by unfold Dk.rename; rw [hr, if_neg (by decide), if_pos ha]
      have g1 : (d.asked (bs s) == 0) = false := by simpa using ha
      rw [e1]
      clear h h1 hst e1 er hr ha
      unfold ptr at H1 H2 ⊢
      go_enter Try.func30, Try.ntmps30
      go_wp2_with fail
      refine H1.out.mono ?_
      rintro e w1 ⟨rfl, rfl⟩
      go_wp2_with fail
      refine H2.out.mono ?_
      rintro e w2 ⟨rfl, b2⟩
      have B := hid_of b2
      clear b2
      go_wp2_with fail
      go_ret
      exact ⟨rfl, ⟨_, HK.out.below B.out⟩, (Ev.of_below HB.out).trans (Ev.of_below B.out)⟩
  · have e1 : d.rename (bs s) (bs t) = (d, d.refuse [bs s, bs t]) := by unfold Dk.rename; rw [if_pos hr]
    have g1 : (d.refuse [bs s, bs t] == 0) = false := by simpa using hr
    rw [e1]
    clear h h1 hst e1 er hr
    unfold ptr at H1 ⊢
    go_enter Try.func30, Try.ntmps30
    go_wp2_with fail
    refine H1.out.mono ?_
    rintro e w1 ⟨rfl, rfl⟩
    go_wp2_with fail
    go_ret
    exact ⟨rfl, ⟨_, HK.out⟩, Ev.of_below HB.out⟩
end Go.Proofs.Ytilbffbmpgebmaa.Ops2
