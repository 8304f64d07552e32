/- The document's Check. The document's Check. -/
import Derived.Test.YtpibeabokedpdaaGreatDoorRRnkM
section
namespace Go.Proofs.YtpibeabokedpdaaGreatDoor.RCheckK2
open Go.RowKit Go.Maps
open Go.Proofs.YtpibeabokedpdaaGreatDoor.SetMath
open Go.Proofs.YtpibeabokedpdaaGreatDoor.ValueMath
open Go.Proofs.YtpibeabokedpdaaGreatDoor.Base
open Go.Proofs.YtpibeabokedpdaaGreatDoor.Vals
open Go.Proofs.YtpibeabokedpdaaGreatDoor.Check0
open Go.Proofs.YtpibeabokedpdaaGreatDoor.May
open Go.Proofs.YtpibeabokedpdaaGreatDoor.MayR
open Go.Proofs.YtpibeabokedpdaaGreatDoor.RChk
open Go.Proofs.YtpibeabokedpdaaGreatDoor.RRnk
open Go.Proofs.YtpibeabokedpdaaGreatDoor.RCheck0
set_option linter.unusedVariables false
set_option linter.unusedSimpArgs false

set_option maxHeartbeats 8000000 in
set_option maxRecDepth 100000 in
theorem rraw2 (X : ByteArray) (aa ba ca : Option Addr) (an bn cn ac bc cc : Nat) (l : List Bs) (bL bt bl bf br em va fo ro : Bool) (w : World) (han : an ≤ 140737488355328) (HLn : Hid (l.length = an))
    (hL : decide ((1048576 : Int) < (X.size : Int)) = bL) (ht : X.toList.isEmpty = !bt) (ha : decide ((0 : Int) < (an : Int)) = bl) (hb : decide ((0 : Int) < (bn : Int)) = bf) (hc : decide ((0 : Int) < (cn : Int)) = br) (ha' : decide (0 < an) = bl) (hb' : decide (0 < bn) = bf) (hc' : decide (0 < cn) = br)
    (HSL : Hid (∀ W, Below w.heap.size w W → SL TT W (.slice aa an ac) l))
    (HEm : Hid (∀ W, Below w.heap.size w W → Calls Tryz.prog 144 #[.agg #[.int .i64 2, .string X, .slice aa an ac, .slice ba bn bc, .slice ca cn cc]] W fun e w' => e = .returned (.bool em) ∧ Below W.heap.size W w'))
    (HVa : Hid (∀ W, Below w.heap.size w W → Calls Tryz.prog 145 #[.slice aa an ac] W fun e w' => e = .returned (.bool va) ∧ Below W.heap.size W w'))
    (HFo : Hid (∀ W, Below w.heap.size w W → Calls Tryz.prog 146 #[.slice ba bn bc] W fun e w' => e = .returned (.bool fo) ∧ Below W.heap.size W w'))
    (HRo : Hid (∀ W, Below w.heap.size w W → Calls Tryz.prog 147 #[.slice ca cn cc] W fun e w' => e = .returned (.bool ro) ∧ Below W.heap.size W w')) :
    Calls Tryz.prog 103 #[.agg #[.int .i64 2, .string X, .slice aa an ac, .slice ba bn bc, .slice ca cn cc]] w fun e w' => e = .returned (.int .i64 (rcB 2 bL bt bl bf br em va fo ro (l.all tOk))) ∧ Below w.heap.size w w' := by
  obtain ⟨V, hV⟩ : ∃ V, V = w.alloc (.cells #[.int .i64 2, .string X, .slice aa an ac, .slice ba bn bc, .slice ca cn cc] 40) := ⟨_, rfl⟩
  have bV : Below w.heap.size w V := by rw [hV]; exact FRow.bnew w _
  have v0 : V.heap[w.heap.size]? = some (.cells #[.int .i64 2, .string X, .slice aa an ac, .slice ba bn bc, .slice ca cn cc] 40 (0, 0)) := by rw [hV]; exact heap_alloc_new w _
  have HV := hid_of hV
  have BBV := hid_of bV
  have BVV := hid_of (Below.refl V.heap.size V)
  have HX := hid_of fun (W : World) (hW : Below V.heap.size V W) => box5 ((hW.block _ (lt_of v0)).trans v0)
  obtain ⟨⟨c0, c1, c2, c3, c4⟩, _⟩ := box5 v0
  clear v0 bV hV
  go_enter Tryz.func103, Tryz.ntmps103
  cases bL
  · cases bt
    · cases bl
      · cases bf
        · cases br
          · go_wp2_with fail
            rw [← HV.out]
            refine (HEm.out V BBV.out).mono ?_
            rintro e w1 ⟨rfl, bb⟩
            have BVw1 := hid_of (FRow.bel BVV.out bb (Nat.le_refl _))
            have BBw1 := hid_of (FRow.bel BBV.out bb (Nat.le_refl _))
            clear c0 c1 c2 c3 c4
            obtain ⟨⟨c0, c1, c2, c3, c4⟩, _⟩ := HX.out w1 BVw1.out
            clear bb HEm
            cases em
            · go_wp2_with fail
              refine (HFo.out w1 BBw1.out).mono ?_
              rintro e w3 ⟨rfl, bb⟩
              have BVw3 := hid_of (FRow.bel BVw1.out bb (Nat.le_refl _))
              have BBw3 := hid_of (FRow.bel BBw1.out bb (Nat.le_refl _))
              clear c0 c1 c2 c3 c4
              obtain ⟨⟨c0, c1, c2, c3, c4⟩, _⟩ := HX.out w3 BVw3.out
              clear bb HFo
              cases fo
              · go_wp2_with fail
                go_ret
                exact ⟨ret_i (by first | rfl | simp [rcB]), BBw3.out⟩
              · go_wp2_with fail
                refine (HRo.out w3 BBw3.out).mono ?_
                rintro e w5 ⟨rfl, bb⟩
                have BVw5 := hid_of (FRow.bel BVw3.out bb (Nat.le_refl _))
                have BBw5 := hid_of (FRow.bel BBw3.out bb (Nat.le_refl _))
                clear c0 c1 c2 c3 c4
                obtain ⟨⟨c0, c1, c2, c3, c4⟩, _⟩ := HX.out w5 BVw5.out
                clear bb HRo
                cases ro
                · go_wp2_with fail
                  go_ret
                  exact ⟨ret_i (by first | rfl | simp [rcB]), BBw5.out⟩
                · go_wp2_with fail
                  go_loopg [3] an (fun g s3 wx => ∃ j : Nat, j ≤ an ∧ an ≤ j + g ∧ s3 = .int .i64 (j : Int) ∧ Hid ((l.take j).all tOk = true) ∧ wx = w5)
                  case atStart => exact ⟨0, by omega, by omega, rfl, hid_of rfl, rfl⟩
                  case round =>
                    obtain ⟨j, hj, hg, rfl, HAA, hwx⟩ := hrel
                    by_cases hlt : j < an
                    · obtain ⟨g', rfl⟩ : ∃ g', gk = g' + 1 := ⟨gk - 1, by omega⟩
                      have hjl : j < l.length := by rw [HLn.out]; exact hlt
                      obtain ⟨g1, o1, rfl, c9⟩ := Write.sl_at (HSL.out w5 BBw5.out) hjl
                      have HN := hid_of (fun q => all_take (p := tOk) hjl HAA.out q)
                      have HF := hid_of (fun q => all_no (p := tOk) hjl q)
                      have m1 := mk_size l[j]
                      have k1 : decide ((1048576 : Int) < ((mk l[j]).size : Int)) = !tOk l[j] := by unfold tOk; rw [m1, Bool.eq_iff_iff]; simp; omega
                      clear m1
                      generalize l[j] = x at *
                      generalize mk x = X9 at *
                      have w1' : IntKind.i64.wrap ((j : Int) + 1) = (j : Int) + 1 := IntWalk.i64_in _ (by omega)
                      have d1 : (j : Int) < (an : Int) := by omega
                      generalize tOk x = b at *
                      rw [hwx]
                      clear hwx
                      cases b
                      · have HZ := hid_of (HF.out rfl)
                        simp only [Bool.not_false] at k1
                        have k1' : (1048576 : Int) < (X9.size : Int) := of_decide_eq_true k1
                        clear HF HN k1
                        go_wp2_with fail
                        go_ret
                        exact ⟨ret_i (by rw [HZ.out]; first | rfl | simp [rcB]), BBw5.out⟩
                      · have HZ := hid_of (HN.out rfl)
                        simp only [Bool.not_true] at k1
                        have k1' : ¬ (1048576 : Int) < (X9.size : Int) := of_decide_eq_false k1
                        clear HF HN k1
                        go_wp2_with fail
                        go_roundg g'
                        case measure => omega
                        case rel => exact ⟨j + 1, by omega, by omega, by simp, HZ, rfl⟩
                    · obtain rfl : j = an := by omega
                      have d1 : ¬ (j : Int) < (j : Int) := by omega
                      have HT : Hid (l.all tOk = true) := hid_of (by
                        have := HAA.out
                        rw [List.take_of_length_le (by have := HLn.out; omega)] at this
                        exact this)
                      rw [hwx]
                      clear hwx
                      go_wp2_with fail
                      go_ret
                      exact ⟨ret_i (by rw [HT.out]; first | rfl | simp [rcB]), BBw5.out⟩
            · go_wp2_with fail
              go_ret
              exact ⟨ret_i (by first | rfl | simp [rcB]), BBw1.out⟩
          · go_wp2_with fail
            go_ret
            exact ⟨ret_i (by first | rfl | simp [rcB]), by rw [← HV.out]; exact BBV.out⟩
        · go_wp2_with fail
          go_ret
          exact ⟨ret_i (by first | rfl | simp [rcB]), by rw [← HV.out]; exact BBV.out⟩
      · cases bf
        · cases br
          · go_wp2_with fail
            rw [← HV.out]
            refine (HEm.out V BBV.out).mono ?_
            rintro e w1 ⟨rfl, bb⟩
            have BVw1 := hid_of (FRow.bel BVV.out bb (Nat.le_refl _))
            have BBw1 := hid_of (FRow.bel BBV.out bb (Nat.le_refl _))
            clear c0 c1 c2 c3 c4
            obtain ⟨⟨c0, c1, c2, c3, c4⟩, _⟩ := HX.out w1 BVw1.out
            clear bb HEm
            cases em
            · go_wp2_with fail
              refine (HFo.out w1 BBw1.out).mono ?_
              rintro e w3 ⟨rfl, bb⟩
              have BVw3 := hid_of (FRow.bel BVw1.out bb (Nat.le_refl _))
              have BBw3 := hid_of (FRow.bel BBw1.out bb (Nat.le_refl _))
              clear c0 c1 c2 c3 c4
              obtain ⟨⟨c0, c1, c2, c3, c4⟩, _⟩ := HX.out w3 BVw3.out
              clear bb HFo
              cases fo
              · go_wp2_with fail
                go_ret
                exact ⟨ret_i (by first | rfl | simp [rcB]), BBw3.out⟩
              · go_wp2_with fail
                refine (HRo.out w3 BBw3.out).mono ?_
                rintro e w5 ⟨rfl, bb⟩
                have BVw5 := hid_of (FRow.bel BVw3.out bb (Nat.le_refl _))
                have BBw5 := hid_of (FRow.bel BBw3.out bb (Nat.le_refl _))
                clear c0 c1 c2 c3 c4
                obtain ⟨⟨c0, c1, c2, c3, c4⟩, _⟩ := HX.out w5 BVw5.out
                clear bb HRo
                cases ro
                · go_wp2_with fail
                  go_ret
                  exact ⟨ret_i (by first | rfl | simp [rcB]), BBw5.out⟩
                · go_wp2_with fail
                  go_loopg [3] an (fun g s3 wx => ∃ j : Nat, j ≤ an ∧ an ≤ j + g ∧ s3 = .int .i64 (j : Int) ∧ Hid ((l.take j).all tOk = true) ∧ wx = w5)
                  case atStart => exact ⟨0, by omega, by omega, rfl, hid_of rfl, rfl⟩
                  case round =>
                    obtain ⟨j, hj, hg, rfl, HAA, hwx⟩ := hrel
                    by_cases hlt : j < an
                    · obtain ⟨g', rfl⟩ : ∃ g', gk = g' + 1 := ⟨gk - 1, by omega⟩
                      have hjl : j < l.length := by rw [HLn.out]; exact hlt
                      obtain ⟨g1, o1, rfl, c9⟩ := Write.sl_at (HSL.out w5 BBw5.out) hjl
                      have HN := hid_of (fun q => all_take (p := tOk) hjl HAA.out q)
                      have HF := hid_of (fun q => all_no (p := tOk) hjl q)
                      have m1 := mk_size l[j]
                      have k1 : decide ((1048576 : Int) < ((mk l[j]).size : Int)) = !tOk l[j] := by unfold tOk; rw [m1, Bool.eq_iff_iff]; simp; omega
                      clear m1
                      generalize l[j] = x at *
                      generalize mk x = X9 at *
                      have w1' : IntKind.i64.wrap ((j : Int) + 1) = (j : Int) + 1 := IntWalk.i64_in _ (by omega)
                      have d1 : (j : Int) < (an : Int) := by omega
                      generalize tOk x = b at *
                      rw [hwx]
                      clear hwx
                      cases b
                      · have HZ := hid_of (HF.out rfl)
                        simp only [Bool.not_false] at k1
                        have k1' : (1048576 : Int) < (X9.size : Int) := of_decide_eq_true k1
                        clear HF HN k1
                        go_wp2_with fail
                        go_ret
                        exact ⟨ret_i (by rw [HZ.out]; first | rfl | simp [rcB]), BBw5.out⟩
                      · have HZ := hid_of (HN.out rfl)
                        simp only [Bool.not_true] at k1
                        have k1' : ¬ (1048576 : Int) < (X9.size : Int) := of_decide_eq_false k1
                        clear HF HN k1
                        go_wp2_with fail
                        go_roundg g'
                        case measure => omega
                        case rel => exact ⟨j + 1, by omega, by omega, by simp, HZ, rfl⟩
                    · obtain rfl : j = an := by omega
                      have d1 : ¬ (j : Int) < (j : Int) := by omega
                      have HT : Hid (l.all tOk = true) := hid_of (by
                        have := HAA.out
                        rw [List.take_of_length_le (by have := HLn.out; omega)] at this
                        exact this)
                      rw [hwx]
                      clear hwx
                      go_wp2_with fail
                      go_ret
                      exact ⟨ret_i (by rw [HT.out]; first | rfl | simp [rcB]), BBw5.out⟩
            · go_wp2_with fail
              go_ret
              exact ⟨ret_i (by first | rfl | simp [rcB]), BBw1.out⟩
          · go_wp2_with fail
            go_ret
            exact ⟨ret_i (by first | rfl | simp [rcB]), by rw [← HV.out]; exact BBV.out⟩
        · go_wp2_with fail
          go_ret
          exact ⟨ret_i (by first | rfl | simp [rcB]), by rw [← HV.out]; exact BBV.out⟩
    · go_wp2_with fail
      go_ret
      exact ⟨ret_i (by first | rfl | simp [rcB]), by rw [← HV.out]; exact BBV.out⟩
  · go_wp2_with fail
    go_ret
    exact ⟨ret_i (by first | rfl | simp [rcB]), by rw [← HV.out]; exact BBV.out⟩

end Go.Proofs.YtpibeabokedpdaaGreatDoor.RCheckK2
end
section
namespace Go.Proofs.YtpibeabokedpdaaGreatDoor.RCheckK3
open Go.RowKit Go.Maps
open Go.Proofs.YtpibeabokedpdaaGreatDoor.SetMath
open Go.Proofs.YtpibeabokedpdaaGreatDoor.ValueMath
open Go.Proofs.YtpibeabokedpdaaGreatDoor.Base
open Go.Proofs.YtpibeabokedpdaaGreatDoor.Vals
open Go.Proofs.YtpibeabokedpdaaGreatDoor.Check0
open Go.Proofs.YtpibeabokedpdaaGreatDoor.May
open Go.Proofs.YtpibeabokedpdaaGreatDoor.MayR
open Go.Proofs.YtpibeabokedpdaaGreatDoor.RChk
open Go.Proofs.YtpibeabokedpdaaGreatDoor.RRnk
open Go.Proofs.YtpibeabokedpdaaGreatDoor.RCheck0
set_option linter.unusedVariables false
set_option linter.unusedSimpArgs false

set_option maxHeartbeats 8000000 in
set_option maxRecDepth 100000 in
theorem rraw3 (X : ByteArray) (aa ba ca : Option Addr) (an bn cn ac bc cc : Nat) (l : List Bs) (bL bt bl bf br em va fo ro : Bool) (w : World) (han : an ≤ 140737488355328) (HLn : Hid (l.length = an))
    (hL : decide ((1048576 : Int) < (X.size : Int)) = bL) (ht : X.toList.isEmpty = !bt) (ha : decide ((0 : Int) < (an : Int)) = bl) (hb : decide ((0 : Int) < (bn : Int)) = bf) (hc : decide ((0 : Int) < (cn : Int)) = br) (ha' : decide (0 < an) = bl) (hb' : decide (0 < bn) = bf) (hc' : decide (0 < cn) = br)
    (HSL : Hid (∀ W, Below w.heap.size w W → SL TT W (.slice aa an ac) l))
    (HEm : Hid (∀ W, Below w.heap.size w W → Calls Tryz.prog 144 #[.agg #[.int .i64 3, .string X, .slice aa an ac, .slice ba bn bc, .slice ca cn cc]] W fun e w' => e = .returned (.bool em) ∧ Below W.heap.size W w'))
    (HVa : Hid (∀ W, Below w.heap.size w W → Calls Tryz.prog 145 #[.slice aa an ac] W fun e w' => e = .returned (.bool va) ∧ Below W.heap.size W w'))
    (HFo : Hid (∀ W, Below w.heap.size w W → Calls Tryz.prog 146 #[.slice ba bn bc] W fun e w' => e = .returned (.bool fo) ∧ Below W.heap.size W w'))
    (HRo : Hid (∀ W, Below w.heap.size w W → Calls Tryz.prog 147 #[.slice ca cn cc] W fun e w' => e = .returned (.bool ro) ∧ Below W.heap.size W w')) :
    Calls Tryz.prog 103 #[.agg #[.int .i64 3, .string X, .slice aa an ac, .slice ba bn bc, .slice ca cn cc]] w fun e w' => e = .returned (.int .i64 (rcB 3 bL bt bl bf br em va fo ro (l.all tOk))) ∧ Below w.heap.size w w' := by
  obtain ⟨V, hV⟩ : ∃ V, V = w.alloc (.cells #[.int .i64 3, .string X, .slice aa an ac, .slice ba bn bc, .slice ca cn cc] 40) := ⟨_, rfl⟩
  have bV : Below w.heap.size w V := by rw [hV]; exact FRow.bnew w _
  have v0 : V.heap[w.heap.size]? = some (.cells #[.int .i64 3, .string X, .slice aa an ac, .slice ba bn bc, .slice ca cn cc] 40 (0, 0)) := by rw [hV]; exact heap_alloc_new w _
  have HV := hid_of hV
  have BBV := hid_of bV
  have BVV := hid_of (Below.refl V.heap.size V)
  have HX := hid_of fun (W : World) (hW : Below V.heap.size V W) => box5 ((hW.block _ (lt_of v0)).trans v0)
  obtain ⟨⟨c0, c1, c2, c3, c4⟩, _⟩ := box5 v0
  clear v0 bV hV
  go_enter Tryz.func103, Tryz.ntmps103
  cases bL
  · cases bt
    · cases bl
      · cases bf
        · cases br
          · go_wp2_with fail
            rw [← HV.out]
            refine (HEm.out V BBV.out).mono ?_
            rintro e w1 ⟨rfl, bb⟩
            have BVw1 := hid_of (FRow.bel BVV.out bb (Nat.le_refl _))
            have BBw1 := hid_of (FRow.bel BBV.out bb (Nat.le_refl _))
            clear c0 c1 c2 c3 c4
            obtain ⟨⟨c0, c1, c2, c3, c4⟩, _⟩ := HX.out w1 BVw1.out
            clear bb HEm
            cases em
            · go_wp2_with fail
              refine (HFo.out w1 BBw1.out).mono ?_
              rintro e w3 ⟨rfl, bb⟩
              have BVw3 := hid_of (FRow.bel BVw1.out bb (Nat.le_refl _))
              have BBw3 := hid_of (FRow.bel BBw1.out bb (Nat.le_refl _))
              clear c0 c1 c2 c3 c4
              obtain ⟨⟨c0, c1, c2, c3, c4⟩, _⟩ := HX.out w3 BVw3.out
              clear bb HFo
              cases fo
              · go_wp2_with fail
                go_ret
                exact ⟨ret_i (by first | rfl | simp [rcB]), BBw3.out⟩
              · go_wp2_with fail
                refine (HRo.out w3 BBw3.out).mono ?_
                rintro e w5 ⟨rfl, bb⟩
                have BVw5 := hid_of (FRow.bel BVw3.out bb (Nat.le_refl _))
                have BBw5 := hid_of (FRow.bel BBw3.out bb (Nat.le_refl _))
                clear c0 c1 c2 c3 c4
                obtain ⟨⟨c0, c1, c2, c3, c4⟩, _⟩ := HX.out w5 BVw5.out
                clear bb HRo
                cases ro
                · go_wp2_with fail
                  go_ret
                  exact ⟨ret_i (by first | rfl | simp [rcB]), BBw5.out⟩
                · go_wp2_with fail
                  go_loopg [3] an (fun g s3 wx => ∃ j : Nat, j ≤ an ∧ an ≤ j + g ∧ s3 = .int .i64 (j : Int) ∧ Hid ((l.take j).all tOk = true) ∧ wx = w5)
                  case atStart => exact ⟨0, by omega, by omega, rfl, hid_of rfl, rfl⟩
                  case round =>
                    obtain ⟨j, hj, hg, rfl, HAA, hwx⟩ := hrel
                    by_cases hlt : j < an
                    · obtain ⟨g', rfl⟩ : ∃ g', gk = g' + 1 := ⟨gk - 1, by omega⟩
                      have hjl : j < l.length := by rw [HLn.out]; exact hlt
                      obtain ⟨g1, o1, rfl, c9⟩ := Write.sl_at (HSL.out w5 BBw5.out) hjl
                      have HN := hid_of (fun q => all_take (p := tOk) hjl HAA.out q)
                      have HF := hid_of (fun q => all_no (p := tOk) hjl q)
                      have m1 := mk_size l[j]
                      have k1 : decide ((1048576 : Int) < ((mk l[j]).size : Int)) = !tOk l[j] := by unfold tOk; rw [m1, Bool.eq_iff_iff]; simp; omega
                      clear m1
                      generalize l[j] = x at *
                      generalize mk x = X9 at *
                      have w1' : IntKind.i64.wrap ((j : Int) + 1) = (j : Int) + 1 := IntWalk.i64_in _ (by omega)
                      have d1 : (j : Int) < (an : Int) := by omega
                      generalize tOk x = b at *
                      rw [hwx]
                      clear hwx
                      cases b
                      · have HZ := hid_of (HF.out rfl)
                        simp only [Bool.not_false] at k1
                        have k1' : (1048576 : Int) < (X9.size : Int) := of_decide_eq_true k1
                        clear HF HN k1
                        go_wp2_with fail
                        go_ret
                        exact ⟨ret_i (by rw [HZ.out]; first | rfl | simp [rcB]), BBw5.out⟩
                      · have HZ := hid_of (HN.out rfl)
                        simp only [Bool.not_true] at k1
                        have k1' : ¬ (1048576 : Int) < (X9.size : Int) := of_decide_eq_false k1
                        clear HF HN k1
                        go_wp2_with fail
                        go_roundg g'
                        case measure => omega
                        case rel => exact ⟨j + 1, by omega, by omega, by simp, HZ, rfl⟩
                    · obtain rfl : j = an := by omega
                      have d1 : ¬ (j : Int) < (j : Int) := by omega
                      have HT : Hid (l.all tOk = true) := hid_of (by
                        have := HAA.out
                        rw [List.take_of_length_le (by have := HLn.out; omega)] at this
                        exact this)
                      rw [hwx]
                      clear hwx
                      go_wp2_with fail
                      go_ret
                      exact ⟨ret_i (by rw [HT.out]; first | rfl | simp [rcB]), BBw5.out⟩
            · go_wp2_with fail
              go_ret
              exact ⟨ret_i (by first | rfl | simp [rcB]), BBw1.out⟩
          · go_wp2_with fail
            go_ret
            exact ⟨ret_i (by first | rfl | simp [rcB]), by rw [← HV.out]; exact BBV.out⟩
        · cases br
          · go_wp2_with fail
            rw [← HV.out]
            refine (HEm.out V BBV.out).mono ?_
            rintro e w1 ⟨rfl, bb⟩
            have BVw1 := hid_of (FRow.bel BVV.out bb (Nat.le_refl _))
            have BBw1 := hid_of (FRow.bel BBV.out bb (Nat.le_refl _))
            clear c0 c1 c2 c3 c4
            obtain ⟨⟨c0, c1, c2, c3, c4⟩, _⟩ := HX.out w1 BVw1.out
            clear bb HEm
            cases em
            · go_wp2_with fail
              refine (HFo.out w1 BBw1.out).mono ?_
              rintro e w3 ⟨rfl, bb⟩
              have BVw3 := hid_of (FRow.bel BVw1.out bb (Nat.le_refl _))
              have BBw3 := hid_of (FRow.bel BBw1.out bb (Nat.le_refl _))
              clear c0 c1 c2 c3 c4
              obtain ⟨⟨c0, c1, c2, c3, c4⟩, _⟩ := HX.out w3 BVw3.out
              clear bb HFo
              cases fo
              · go_wp2_with fail
                go_ret
                exact ⟨ret_i (by first | rfl | simp [rcB]), BBw3.out⟩
              · go_wp2_with fail
                refine (HRo.out w3 BBw3.out).mono ?_
                rintro e w5 ⟨rfl, bb⟩
                have BVw5 := hid_of (FRow.bel BVw3.out bb (Nat.le_refl _))
                have BBw5 := hid_of (FRow.bel BBw3.out bb (Nat.le_refl _))
                clear c0 c1 c2 c3 c4
                obtain ⟨⟨c0, c1, c2, c3, c4⟩, _⟩ := HX.out w5 BVw5.out
                clear bb HRo
                cases ro
                · go_wp2_with fail
                  go_ret
                  exact ⟨ret_i (by first | rfl | simp [rcB]), BBw5.out⟩
                · go_wp2_with fail
                  go_loopg [3] an (fun g s3 wx => ∃ j : Nat, j ≤ an ∧ an ≤ j + g ∧ s3 = .int .i64 (j : Int) ∧ Hid ((l.take j).all tOk = true) ∧ wx = w5)
                  case atStart => exact ⟨0, by omega, by omega, rfl, hid_of rfl, rfl⟩
                  case round =>
                    obtain ⟨j, hj, hg, rfl, HAA, hwx⟩ := hrel
                    by_cases hlt : j < an
                    · obtain ⟨g', rfl⟩ : ∃ g', gk = g' + 1 := ⟨gk - 1, by omega⟩
                      have hjl : j < l.length := by rw [HLn.out]; exact hlt
                      obtain ⟨g1, o1, rfl, c9⟩ := Write.sl_at (HSL.out w5 BBw5.out) hjl
                      have HN := hid_of (fun q => all_take (p := tOk) hjl HAA.out q)
                      have HF := hid_of (fun q => all_no (p := tOk) hjl q)
                      have m1 := mk_size l[j]
                      have k1 : decide ((1048576 : Int) < ((mk l[j]).size : Int)) = !tOk l[j] := by unfold tOk; rw [m1, Bool.eq_iff_iff]; simp; omega
                      clear m1
                      generalize l[j] = x at *
                      generalize mk x = X9 at *
                      have w1' : IntKind.i64.wrap ((j : Int) + 1) = (j : Int) + 1 := IntWalk.i64_in _ (by omega)
                      have d1 : (j : Int) < (an : Int) := by omega
                      generalize tOk x = b at *
                      rw [hwx]
                      clear hwx
                      cases b
                      · have HZ := hid_of (HF.out rfl)
                        simp only [Bool.not_false] at k1
                        have k1' : (1048576 : Int) < (X9.size : Int) := of_decide_eq_true k1
                        clear HF HN k1
                        go_wp2_with fail
                        go_ret
                        exact ⟨ret_i (by rw [HZ.out]; first | rfl | simp [rcB]), BBw5.out⟩
                      · have HZ := hid_of (HN.out rfl)
                        simp only [Bool.not_true] at k1
                        have k1' : ¬ (1048576 : Int) < (X9.size : Int) := of_decide_eq_false k1
                        clear HF HN k1
                        go_wp2_with fail
                        go_roundg g'
                        case measure => omega
                        case rel => exact ⟨j + 1, by omega, by omega, by simp, HZ, rfl⟩
                    · obtain rfl : j = an := by omega
                      have d1 : ¬ (j : Int) < (j : Int) := by omega
                      have HT : Hid (l.all tOk = true) := hid_of (by
                        have := HAA.out
                        rw [List.take_of_length_le (by have := HLn.out; omega)] at this
                        exact this)
                      rw [hwx]
                      clear hwx
                      go_wp2_with fail
                      go_ret
                      exact ⟨ret_i (by rw [HT.out]; first | rfl | simp [rcB]), BBw5.out⟩
            · go_wp2_with fail
              go_ret
              exact ⟨ret_i (by first | rfl | simp [rcB]), BBw1.out⟩
          · go_wp2_with fail
            go_ret
            exact ⟨ret_i (by first | rfl | simp [rcB]), by rw [← HV.out]; exact BBV.out⟩
      · go_wp2_with fail
        go_ret
        exact ⟨ret_i (by first | rfl | simp [rcB]), by rw [← HV.out]; exact BBV.out⟩
    · go_wp2_with fail
      go_ret
      exact ⟨ret_i (by first | rfl | simp [rcB]), by rw [← HV.out]; exact BBV.out⟩
  · go_wp2_with fail
    go_ret
    exact ⟨ret_i (by first | rfl | simp [rcB]), by rw [← HV.out]; exact BBV.out⟩

end Go.Proofs.YtpibeabokedpdaaGreatDoor.RCheckK3
end
