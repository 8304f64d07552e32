/- The document's Check. The document's Check. The document's Check. -/
import Derived.Test.YtpibeabokedpdaaGreatDoorRRnkM
import Derived.Test.YtpibeabokedpdaaGreatDoorCopyM
import Derived.Test.YtpibeabokedpdaaGreatDoorRCheckK2M
section
namespace Go.Proofs.YtpibeabokedpdaaGreatDoor.RCheckK4
open Go.RowKit Go.Maps
open Go.Proofs.YtpibeabokedpdaaGreatDoor.SetMath
open Go.Proofs.YtpibeabokedpdaaGreatDoor.ValueMath
open Go.Proofs.YtpibeabokedpdaaGreatDoor.Base
open Go.Proofs.YtpibeabokedpdaaGreatDoor.Vals
open Go.Proofs.YtpibeabokedpdaaGreatDoor.Check0
open Go.Proofs.YtpibeabokedpdaaGreatDoor.May
open Go.Proofs.YtpibeabokedpdaaGreatDoor.MayR
open Go.Proofs.YtpibeabokedpdaaGreatDoor.RChk
open Go.Proofs.YtpibeabokedpdaaGreatDoor.RRnk
open Go.Proofs.YtpibeabokedpdaaGreatDoor.RCheck0
set_option linter.unusedVariables false
set_option linter.unusedSimpArgs false

set_option maxHeartbeats 8000000 in
set_option maxRecDepth 100000 in
theorem rraw4 (X : ByteArray) (aa ba ca : Option Addr) (an bn cn ac bc cc : Nat) (l : List Bs) (bL bt bl bf br em va fo ro : Bool) (w : World) (han : an ≤ 140737488355328) (HLn : Hid (l.length = an))
    (hL : decide ((1048576 : Int) < (X.size : Int)) = bL) (ht : X.toList.isEmpty = !bt) (ha : decide ((0 : Int) < (an : Int)) = bl) (hb : decide ((0 : Int) < (bn : Int)) = bf) (hc : decide ((0 : Int) < (cn : Int)) = br) (ha' : decide (0 < an) = bl) (hb' : decide (0 < bn) = bf) (hc' : decide (0 < cn) = br)
    (HSL : Hid (∀ W, Below w.heap.size w W → SL TT W (.slice aa an ac) l))
    (HEm : Hid (∀ W, Below w.heap.size w W → Calls Tryz.prog 144 #[.agg #[.int .i64 4, .string X, .slice aa an ac, .slice ba bn bc, .slice ca cn cc]] W fun e w' => e = .returned (.bool em) ∧ Below W.heap.size W w'))
    (HVa : Hid (∀ W, Below w.heap.size w W → Calls Tryz.prog 145 #[.slice aa an ac] W fun e w' => e = .returned (.bool va) ∧ Below W.heap.size W w'))
    (HFo : Hid (∀ W, Below w.heap.size w W → Calls Tryz.prog 146 #[.slice ba bn bc] W fun e w' => e = .returned (.bool fo) ∧ Below W.heap.size W w'))
    (HRo : Hid (∀ W, Below w.heap.size w W → Calls Tryz.prog 147 #[.slice ca cn cc] W fun e w' => e = .returned (.bool ro) ∧ Below W.heap.size W w')) :
    Calls Tryz.prog 103 #[.agg #[.int .i64 4, .string X, .slice aa an ac, .slice ba bn bc, .slice ca cn cc]] w fun e w' => e = .returned (.int .i64 (rcB 4 bL bt bl bf br em va fo ro (l.all tOk))) ∧ Below w.heap.size w w' := by
  obtain ⟨V, hV⟩ : ∃ V, V = w.alloc (.cells #[.int .i64 4, .string X, .slice aa an ac, .slice ba bn bc, .slice ca cn cc] 40) := ⟨_, rfl⟩
  have bV : Below w.heap.size w V := by rw [hV]; exact FRow.bnew w _
  have v0 : V.heap[w.heap.size]? = some (.cells #[.int .i64 4, .string X, .slice aa an ac, .slice ba bn bc, .slice ca cn cc] 40 (0, 0)) := by rw [hV]; exact heap_alloc_new w _
  have HV := hid_of hV
  have BBV := hid_of bV
  have BVV := hid_of (Below.refl V.heap.size V)
  have HX := hid_of fun (W : World) (hW : Below V.heap.size V W) => box5 ((hW.block _ (lt_of v0)).trans v0)
  obtain ⟨⟨c0, c1, c2, c3, c4⟩, _⟩ := box5 v0
  clear v0 bV hV
  go_enter Tryz.func103, Tryz.ntmps103
  cases bL
  · cases bt
    · cases bl
      · cases bf
        · cases br
          · go_wp2_with fail
            rw [← HV.out]
            refine (HEm.out V BBV.out).mono ?_
            rintro e w1 ⟨rfl, bb⟩
            have BVw1 := hid_of (FRow.bel BVV.out bb (Nat.le_refl _))
            have BBw1 := hid_of (FRow.bel BBV.out bb (Nat.le_refl _))
            clear c0 c1 c2 c3 c4
            obtain ⟨⟨c0, c1, c2, c3, c4⟩, _⟩ := HX.out w1 BVw1.out
            clear bb HEm
            cases em
            · go_wp2_with fail
              refine (HVa.out w1 BBw1.out).mono ?_
              rintro e w2 ⟨rfl, bb⟩
              have BVw2 := hid_of (FRow.bel BVw1.out bb (Nat.le_refl _))
              have BBw2 := hid_of (FRow.bel BBw1.out bb (Nat.le_refl _))
              clear c0 c1 c2 c3 c4
              obtain ⟨⟨c0, c1, c2, c3, c4⟩, _⟩ := HX.out w2 BVw2.out
              clear bb HVa
              cases va
              · go_wp2_with fail
                go_ret
                exact ⟨ret_i (by first | rfl | simp [rcB]), BBw2.out⟩
              · go_wp2_with fail
                refine (HFo.out w2 BBw2.out).mono ?_
                rintro e w3 ⟨rfl, bb⟩
                have BVw3 := hid_of (FRow.bel BVw2.out bb (Nat.le_refl _))
                have BBw3 := hid_of (FRow.bel BBw2.out bb (Nat.le_refl _))
                clear c0 c1 c2 c3 c4
                obtain ⟨⟨c0, c1, c2, c3, c4⟩, _⟩ := HX.out w3 BVw3.out
                clear bb HFo
                cases fo
                · go_wp2_with fail
                  go_ret
                  exact ⟨ret_i (by first | rfl | simp [rcB]), BBw3.out⟩
                · go_wp2_with fail
                  refine (HRo.out w3 BBw3.out).mono ?_
                  rintro e w5 ⟨rfl, bb⟩
                  have BVw5 := hid_of (FRow.bel BVw3.out bb (Nat.le_refl _))
                  have BBw5 := hid_of (FRow.bel BBw3.out bb (Nat.le_refl _))
                  clear c0 c1 c2 c3 c4
                  obtain ⟨⟨c0, c1, c2, c3, c4⟩, _⟩ := HX.out w5 BVw5.out
                  clear bb HRo
                  cases ro
                  · go_wp2_with fail
                    go_ret
                    exact ⟨ret_i (by first | rfl | simp [rcB]), BBw5.out⟩
                  · go_wp2_with fail
                    go_loopg [3] an (fun g s3 wx => ∃ j : Nat, j ≤ an ∧ an ≤ j + g ∧ s3 = .int .i64 (j : Int) ∧ Hid ((l.take j).all tOk = true) ∧ wx = w5)
                    case atStart => exact ⟨0, by omega, by omega, rfl, hid_of rfl, rfl⟩
                    case round =>
                      obtain ⟨j, hj, hg, rfl, HAA, hwx⟩ := hrel
                      by_cases hlt : j < an
                      · obtain ⟨g', rfl⟩ : ∃ g', gk = g' + 1 := ⟨gk - 1, by omega⟩
                        have hjl : j < l.length := by rw [HLn.out]; exact hlt
                        obtain ⟨g1, o1, rfl, c9⟩ := Write.sl_at (HSL.out w5 BBw5.out) hjl
                        have HN := hid_of (fun q => all_take (p := tOk) hjl HAA.out q)
                        have HF := hid_of (fun q => all_no (p := tOk) hjl q)
                        have m1 := mk_size l[j]
                        have k1 : decide ((1048576 : Int) < ((mk l[j]).size : Int)) = !tOk l[j] := by unfold tOk; rw [m1, Bool.eq_iff_iff]; simp; omega
                        clear m1
                        generalize l[j] = x at *
                        generalize mk x = X9 at *
                        have w1' : IntKind.i64.wrap ((j : Int) + 1) = (j : Int) + 1 := IntWalk.i64_in _ (by omega)
                        have d1 : (j : Int) < (an : Int) := by omega
                        generalize tOk x = b at *
                        rw [hwx]
                        clear hwx
                        cases b
                        · have HZ := hid_of (HF.out rfl)
                          simp only [Bool.not_false] at k1
                          have k1' : (1048576 : Int) < (X9.size : Int) := of_decide_eq_true k1
                          clear HF HN k1
                          go_wp2_with fail
                          go_ret
                          exact ⟨ret_i (by rw [HZ.out]; first | rfl | simp [rcB]), BBw5.out⟩
                        · have HZ := hid_of (HN.out rfl)
                          simp only [Bool.not_true] at k1
                          have k1' : ¬ (1048576 : Int) < (X9.size : Int) := of_decide_eq_false k1
                          clear HF HN k1
                          go_wp2_with fail
                          go_roundg g'
                          case measure => omega
                          case rel => exact ⟨j + 1, by omega, by omega, by simp, HZ, rfl⟩
                      · obtain rfl : j = an := by omega
                        have d1 : ¬ (j : Int) < (j : Int) := by omega
                        have HT : Hid (l.all tOk = true) := hid_of (by
                          have := HAA.out
                          rw [List.take_of_length_le (by have := HLn.out; omega)] at this
                          exact this)
                        rw [hwx]
                        clear hwx
                        go_wp2_with fail
                        go_ret
                        exact ⟨ret_i (by rw [HT.out]; first | rfl | simp [rcB]), BBw5.out⟩
            · go_wp2_with fail
              go_ret
              exact ⟨ret_i (by first | rfl | simp [rcB]), BBw1.out⟩
          · go_wp2_with fail
            go_ret
            exact ⟨ret_i (by first | rfl | simp [rcB]), by rw [← HV.out]; exact BBV.out⟩
        · go_wp2_with fail
          go_ret
          exact ⟨ret_i (by first | rfl | simp [rcB]), by rw [← HV.out]; exact BBV.out⟩
      · cases bf
        · cases br
          · go_wp2_with fail
            rw [← HV.out]
            refine (HEm.out V BBV.out).mono ?_
            rintro e w1 ⟨rfl, bb⟩
            have BVw1 := hid_of (FRow.bel BVV.out bb (Nat.le_refl _))
            have BBw1 := hid_of (FRow.bel BBV.out bb (Nat.le_refl _))
            clear c0 c1 c2 c3 c4
            obtain ⟨⟨c0, c1, c2, c3, c4⟩, _⟩ := HX.out w1 BVw1.out
            clear bb HEm
            cases em
            · go_wp2_with fail
              refine (HVa.out w1 BBw1.out).mono ?_
              rintro e w2 ⟨rfl, bb⟩
              have BVw2 := hid_of (FRow.bel BVw1.out bb (Nat.le_refl _))
              have BBw2 := hid_of (FRow.bel BBw1.out bb (Nat.le_refl _))
              clear c0 c1 c2 c3 c4
              obtain ⟨⟨c0, c1, c2, c3, c4⟩, _⟩ := HX.out w2 BVw2.out
              clear bb HVa
              cases va
              · go_wp2_with fail
                go_ret
                exact ⟨ret_i (by first | rfl | simp [rcB]), BBw2.out⟩
              · go_wp2_with fail
                refine (HFo.out w2 BBw2.out).mono ?_
                rintro e w3 ⟨rfl, bb⟩
                have BVw3 := hid_of (FRow.bel BVw2.out bb (Nat.le_refl _))
                have BBw3 := hid_of (FRow.bel BBw2.out bb (Nat.le_refl _))
                clear c0 c1 c2 c3 c4
                obtain ⟨⟨c0, c1, c2, c3, c4⟩, _⟩ := HX.out w3 BVw3.out
                clear bb HFo
                cases fo
                · go_wp2_with fail
                  go_ret
                  exact ⟨ret_i (by first | rfl | simp [rcB]), BBw3.out⟩
                · go_wp2_with fail
                  refine (HRo.out w3 BBw3.out).mono ?_
                  rintro e w5 ⟨rfl, bb⟩
                  have BVw5 := hid_of (FRow.bel BVw3.out bb (Nat.le_refl _))
                  have BBw5 := hid_of (FRow.bel BBw3.out bb (Nat.le_refl _))
                  clear c0 c1 c2 c3 c4
                  obtain ⟨⟨c0, c1, c2, c3, c4⟩, _⟩ := HX.out w5 BVw5.out
                  clear bb HRo
                  cases ro
                  · go_wp2_with fail
                    go_ret
                    exact ⟨ret_i (by first | rfl | simp [rcB]), BBw5.out⟩
                  · go_wp2_with fail
                    go_loopg [3] an (fun g s3 wx => ∃ j : Nat, j ≤ an ∧ an ≤ j + g ∧ s3 = .int .i64 (j : Int) ∧ Hid ((l.take j).all tOk = true) ∧ wx = w5)
                    case atStart => exact ⟨0, by omega, by omega, rfl, hid_of rfl, rfl⟩
                    case round =>
                      obtain ⟨j, hj, hg, rfl, HAA, hwx⟩ := hrel
                      by_cases hlt : j < an
                      · obtain ⟨g', rfl⟩ : ∃ g', gk = g' + 1 := ⟨gk - 1, by omega⟩
                        have hjl : j < l.length := by rw [HLn.out]; exact hlt
                        obtain ⟨g1, o1, rfl, c9⟩ := Write.sl_at (HSL.out w5 BBw5.out) hjl
                        have HN := hid_of (fun q => all_take (p := tOk) hjl HAA.out q)
                        have HF := hid_of (fun q => all_no (p := tOk) hjl q)
                        have m1 := mk_size l[j]
                        have k1 : decide ((1048576 : Int) < ((mk l[j]).size : Int)) = !tOk l[j] := by unfold tOk; rw [m1, Bool.eq_iff_iff]; simp; omega
                        clear m1
                        generalize l[j] = x at *
                        generalize mk x = X9 at *
                        have w1' : IntKind.i64.wrap ((j : Int) + 1) = (j : Int) + 1 := IntWalk.i64_in _ (by omega)
                        have d1 : (j : Int) < (an : Int) := by omega
                        generalize tOk x = b at *
                        rw [hwx]
                        clear hwx
                        cases b
                        · have HZ := hid_of (HF.out rfl)
                          simp only [Bool.not_false] at k1
                          have k1' : (1048576 : Int) < (X9.size : Int) := of_decide_eq_true k1
                          clear HF HN k1
                          go_wp2_with fail
                          go_ret
                          exact ⟨ret_i (by rw [HZ.out]; first | rfl | simp [rcB]), BBw5.out⟩
                        · have HZ := hid_of (HN.out rfl)
                          simp only [Bool.not_true] at k1
                          have k1' : ¬ (1048576 : Int) < (X9.size : Int) := of_decide_eq_false k1
                          clear HF HN k1
                          go_wp2_with fail
                          go_roundg g'
                          case measure => omega
                          case rel => exact ⟨j + 1, by omega, by omega, by simp, HZ, rfl⟩
                      · obtain rfl : j = an := by omega
                        have d1 : ¬ (j : Int) < (j : Int) := by omega
                        have HT : Hid (l.all tOk = true) := hid_of (by
                          have := HAA.out
                          rw [List.take_of_length_le (by have := HLn.out; omega)] at this
                          exact this)
                        rw [hwx]
                        clear hwx
                        go_wp2_with fail
                        go_ret
                        exact ⟨ret_i (by rw [HT.out]; first | rfl | simp [rcB]), BBw5.out⟩
            · go_wp2_with fail
              go_ret
              exact ⟨ret_i (by first | rfl | simp [rcB]), BBw1.out⟩
          · go_wp2_with fail
            go_ret
            exact ⟨ret_i (by first | rfl | simp [rcB]), by rw [← HV.out]; exact BBV.out⟩
        · go_wp2_with fail
          go_ret
          exact ⟨ret_i (by first | rfl | simp [rcB]), by rw [← HV.out]; exact BBV.out⟩
    · go_wp2_with fail
      go_ret
      exact ⟨ret_i (by first | rfl | simp [rcB]), by rw [← HV.out]; exact BBV.out⟩
  · go_wp2_with fail
    go_ret
    exact ⟨ret_i (by first | rfl | simp [rcB]), by rw [← HV.out]; exact BBV.out⟩

end Go.Proofs.YtpibeabokedpdaaGreatDoor.RCheckK4
end
section
namespace Go.Proofs.YtpibeabokedpdaaGreatDoor.RCheckK5
open Go.RowKit Go.Maps
open Go.Proofs.YtpibeabokedpdaaGreatDoor.SetMath
open Go.Proofs.YtpibeabokedpdaaGreatDoor.ValueMath
open Go.Proofs.YtpibeabokedpdaaGreatDoor.Base
open Go.Proofs.YtpibeabokedpdaaGreatDoor.Vals
open Go.Proofs.YtpibeabokedpdaaGreatDoor.Check0
open Go.Proofs.YtpibeabokedpdaaGreatDoor.May
open Go.Proofs.YtpibeabokedpdaaGreatDoor.MayR
open Go.Proofs.YtpibeabokedpdaaGreatDoor.RChk
open Go.Proofs.YtpibeabokedpdaaGreatDoor.RRnk
open Go.Proofs.YtpibeabokedpdaaGreatDoor.RCheck0
set_option linter.unusedVariables false
set_option linter.unusedSimpArgs false

set_option maxHeartbeats 8000000 in
set_option maxRecDepth 100000 in
theorem rraw5 (X : ByteArray) (aa ba ca : Option Addr) (an bn cn ac bc cc : Nat) (l : List Bs) (bL bt bl bf br em va fo ro : Bool) (w : World) (han : an ≤ 140737488355328) (HLn : Hid (l.length = an))
    (hL : decide ((1048576 : Int) < (X.size : Int)) = bL) (ht : X.toList.isEmpty = !bt) (ha : decide ((0 : Int) < (an : Int)) = bl) (hb : decide ((0 : Int) < (bn : Int)) = bf) (hc : decide ((0 : Int) < (cn : Int)) = br) (ha' : decide (0 < an) = bl) (hb' : decide (0 < bn) = bf) (hc' : decide (0 < cn) = br)
    (HSL : Hid (∀ W, Below w.heap.size w W → SL TT W (.slice aa an ac) l))
    (HEm : Hid (∀ W, Below w.heap.size w W → Calls Tryz.prog 144 #[.agg #[.int .i64 5, .string X, .slice aa an ac, .slice ba bn bc, .slice ca cn cc]] W fun e w' => e = .returned (.bool em) ∧ Below W.heap.size W w'))
    (HVa : Hid (∀ W, Below w.heap.size w W → Calls Tryz.prog 145 #[.slice aa an ac] W fun e w' => e = .returned (.bool va) ∧ Below W.heap.size W w'))
    (HFo : Hid (∀ W, Below w.heap.size w W → Calls Tryz.prog 146 #[.slice ba bn bc] W fun e w' => e = .returned (.bool fo) ∧ Below W.heap.size W w'))
    (HRo : Hid (∀ W, Below w.heap.size w W → Calls Tryz.prog 147 #[.slice ca cn cc] W fun e w' => e = .returned (.bool ro) ∧ Below W.heap.size W w')) :
    Calls Tryz.prog 103 #[.agg #[.int .i64 5, .string X, .slice aa an ac, .slice ba bn bc, .slice ca cn cc]] w fun e w' => e = .returned (.int .i64 (rcB 5 bL bt bl bf br em va fo ro (l.all tOk))) ∧ Below w.heap.size w w' := by
  obtain ⟨V, hV⟩ : ∃ V, V = w.alloc (.cells #[.int .i64 5, .string X, .slice aa an ac, .slice ba bn bc, .slice ca cn cc] 40) := ⟨_, rfl⟩
  have bV : Below w.heap.size w V := by rw [hV]; exact FRow.bnew w _
  have v0 : V.heap[w.heap.size]? = some (.cells #[.int .i64 5, .string X, .slice aa an ac, .slice ba bn bc, .slice ca cn cc] 40 (0, 0)) := by rw [hV]; exact heap_alloc_new w _
  have HV := hid_of hV
  have BBV := hid_of bV
  have BVV := hid_of (Below.refl V.heap.size V)
  have HX := hid_of fun (W : World) (hW : Below V.heap.size V W) => box5 ((hW.block _ (lt_of v0)).trans v0)
  obtain ⟨⟨c0, c1, c2, c3, c4⟩, _⟩ := box5 v0
  clear v0 bV hV
  go_enter Tryz.func103, Tryz.ntmps103
  cases bL
  · cases bt
    · cases bl
      · cases bf
        · cases br
          · go_wp2_with fail
            rw [← HV.out]
            refine (HEm.out V BBV.out).mono ?_
            rintro e w1 ⟨rfl, bb⟩
            have BVw1 := hid_of (FRow.bel BVV.out bb (Nat.le_refl _))
            have BBw1 := hid_of (FRow.bel BBV.out bb (Nat.le_refl _))
            clear c0 c1 c2 c3 c4
            obtain ⟨⟨c0, c1, c2, c3, c4⟩, _⟩ := HX.out w1 BVw1.out
            clear bb HEm
            cases em
            · go_wp2_with fail
              refine (HFo.out w1 BBw1.out).mono ?_
              rintro e w3 ⟨rfl, bb⟩
              have BVw3 := hid_of (FRow.bel BVw1.out bb (Nat.le_refl _))
              have BBw3 := hid_of (FRow.bel BBw1.out bb (Nat.le_refl _))
              clear c0 c1 c2 c3 c4
              obtain ⟨⟨c0, c1, c2, c3, c4⟩, _⟩ := HX.out w3 BVw3.out
              clear bb HFo
              cases fo
              · go_wp2_with fail
                go_ret
                exact ⟨ret_i (by first | rfl | simp [rcB]), BBw3.out⟩
              · go_wp2_with fail
                refine (HRo.out w3 BBw3.out).mono ?_
                rintro e w5 ⟨rfl, bb⟩
                have BVw5 := hid_of (FRow.bel BVw3.out bb (Nat.le_refl _))
                have BBw5 := hid_of (FRow.bel BBw3.out bb (Nat.le_refl _))
                clear c0 c1 c2 c3 c4
                obtain ⟨⟨c0, c1, c2, c3, c4⟩, _⟩ := HX.out w5 BVw5.out
                clear bb HRo
                cases ro
                · go_wp2_with fail
                  go_ret
                  exact ⟨ret_i (by first | rfl | simp [rcB]), BBw5.out⟩
                · go_wp2_with fail
                  go_loopg [3] an (fun g s3 wx => ∃ j : Nat, j ≤ an ∧ an ≤ j + g ∧ s3 = .int .i64 (j : Int) ∧ Hid ((l.take j).all tOk = true) ∧ wx = w5)
                  case atStart => exact ⟨0, by omega, by omega, rfl, hid_of rfl, rfl⟩
                  case round =>
                    obtain ⟨j, hj, hg, rfl, HAA, hwx⟩ := hrel
                    by_cases hlt : j < an
                    · obtain ⟨g', rfl⟩ : ∃ g', gk = g' + 1 := ⟨gk - 1, by omega⟩
                      have hjl : j < l.length := by rw [HLn.out]; exact hlt
                      obtain ⟨g1, o1, rfl, c9⟩ := Write.sl_at (HSL.out w5 BBw5.out) hjl
                      have HN := hid_of (fun q => all_take (p := tOk) hjl HAA.out q)
                      have HF := hid_of (fun q => all_no (p := tOk) hjl q)
                      have m1 := mk_size l[j]
                      have k1 : decide ((1048576 : Int) < ((mk l[j]).size : Int)) = !tOk l[j] := by unfold tOk; rw [m1, Bool.eq_iff_iff]; simp; omega
                      clear m1
                      generalize l[j] = x at *
                      generalize mk x = X9 at *
                      have w1' : IntKind.i64.wrap ((j : Int) + 1) = (j : Int) + 1 := IntWalk.i64_in _ (by omega)
                      have d1 : (j : Int) < (an : Int) := by omega
                      generalize tOk x = b at *
                      rw [hwx]
                      clear hwx
                      cases b
                      · have HZ := hid_of (HF.out rfl)
                        simp only [Bool.not_false] at k1
                        have k1' : (1048576 : Int) < (X9.size : Int) := of_decide_eq_true k1
                        clear HF HN k1
                        go_wp2_with fail
                        go_ret
                        exact ⟨ret_i (by rw [HZ.out]; first | rfl | simp [rcB]), BBw5.out⟩
                      · have HZ := hid_of (HN.out rfl)
                        simp only [Bool.not_true] at k1
                        have k1' : ¬ (1048576 : Int) < (X9.size : Int) := of_decide_eq_false k1
                        clear HF HN k1
                        go_wp2_with fail
                        go_roundg g'
                        case measure => omega
                        case rel => exact ⟨j + 1, by omega, by omega, by simp, HZ, rfl⟩
                    · obtain rfl : j = an := by omega
                      have d1 : ¬ (j : Int) < (j : Int) := by omega
                      have HT : Hid (l.all tOk = true) := hid_of (by
                        have := HAA.out
                        rw [List.take_of_length_le (by have := HLn.out; omega)] at this
                        exact this)
                      rw [hwx]
                      clear hwx
                      go_wp2_with fail
                      go_ret
                      exact ⟨ret_i (by rw [HT.out]; first | rfl | simp [rcB]), BBw5.out⟩
            · go_wp2_with fail
              go_ret
              exact ⟨ret_i (by first | rfl | simp [rcB]), BBw1.out⟩
          · go_wp2_with fail
            rw [← HV.out]
            refine (HEm.out V BBV.out).mono ?_
            rintro e w1 ⟨rfl, bb⟩
            have BVw1 := hid_of (FRow.bel BVV.out bb (Nat.le_refl _))
            have BBw1 := hid_of (FRow.bel BBV.out bb (Nat.le_refl _))
            clear c0 c1 c2 c3 c4
            obtain ⟨⟨c0, c1, c2, c3, c4⟩, _⟩ := HX.out w1 BVw1.out
            clear bb HEm
            cases em
            · go_wp2_with fail
              refine (HFo.out w1 BBw1.out).mono ?_
              rintro e w3 ⟨rfl, bb⟩
              have BVw3 := hid_of (FRow.bel BVw1.out bb (Nat.le_refl _))
              have BBw3 := hid_of (FRow.bel BBw1.out bb (Nat.le_refl _))
              clear c0 c1 c2 c3 c4
              obtain ⟨⟨c0, c1, c2, c3, c4⟩, _⟩ := HX.out w3 BVw3.out
              clear bb HFo
              cases fo
              · go_wp2_with fail
                go_ret
                exact ⟨ret_i (by first | rfl | simp [rcB]), BBw3.out⟩
              · go_wp2_with fail
                refine (HRo.out w3 BBw3.out).mono ?_
                rintro e w5 ⟨rfl, bb⟩
                have BVw5 := hid_of (FRow.bel BVw3.out bb (Nat.le_refl _))
                have BBw5 := hid_of (FRow.bel BBw3.out bb (Nat.le_refl _))
                clear c0 c1 c2 c3 c4
                obtain ⟨⟨c0, c1, c2, c3, c4⟩, _⟩ := HX.out w5 BVw5.out
                clear bb HRo
                cases ro
                · go_wp2_with fail
                  go_ret
                  exact ⟨ret_i (by first | rfl | simp [rcB]), BBw5.out⟩
                · go_wp2_with fail
                  go_loopg [3] an (fun g s3 wx => ∃ j : Nat, j ≤ an ∧ an ≤ j + g ∧ s3 = .int .i64 (j : Int) ∧ Hid ((l.take j).all tOk = true) ∧ wx = w5)
                  case atStart => exact ⟨0, by omega, by omega, rfl, hid_of rfl, rfl⟩
                  case round =>
                    obtain ⟨j, hj, hg, rfl, HAA, hwx⟩ := hrel
                    by_cases hlt : j < an
                    · obtain ⟨g', rfl⟩ : ∃ g', gk = g' + 1 := ⟨gk - 1, by omega⟩
                      have hjl : j < l.length := by rw [HLn.out]; exact hlt
                      obtain ⟨g1, o1, rfl, c9⟩ := Write.sl_at (HSL.out w5 BBw5.out) hjl
                      have HN := hid_of (fun q => all_take (p := tOk) hjl HAA.out q)
                      have HF := hid_of (fun q => all_no (p := tOk) hjl q)
                      have m1 := mk_size l[j]
                      have k1 : decide ((1048576 : Int) < ((mk l[j]).size : Int)) = !tOk l[j] := by unfold tOk; rw [m1, Bool.eq_iff_iff]; simp; omega
                      clear m1
                      generalize l[j] = x at *
                      generalize mk x = X9 at *
                      have w1' : IntKind.i64.wrap ((j : Int) + 1) = (j : Int) + 1 := IntWalk.i64_in _ (by omega)
                      have d1 : (j : Int) < (an : Int) := by omega
                      generalize tOk x = b at *
                      rw [hwx]
                      clear hwx
                      cases b
                      · have HZ := hid_of (HF.out rfl)
                        simp only [Bool.not_false] at k1
                        have k1' : (1048576 : Int) < (X9.size : Int) := of_decide_eq_true k1
                        clear HF HN k1
                        go_wp2_with fail
                        go_ret
                        exact ⟨ret_i (by rw [HZ.out]; first | rfl | simp [rcB]), BBw5.out⟩
                      · have HZ := hid_of (HN.out rfl)
                        simp only [Bool.not_true] at k1
                        have k1' : ¬ (1048576 : Int) < (X9.size : Int) := of_decide_eq_false k1
                        clear HF HN k1
                        go_wp2_with fail
                        go_roundg g'
                        case measure => omega
                        case rel => exact ⟨j + 1, by omega, by omega, by simp, HZ, rfl⟩
                    · obtain rfl : j = an := by omega
                      have d1 : ¬ (j : Int) < (j : Int) := by omega
                      have HT : Hid (l.all tOk = true) := hid_of (by
                        have := HAA.out
                        rw [List.take_of_length_le (by have := HLn.out; omega)] at this
                        exact this)
                      rw [hwx]
                      clear hwx
                      go_wp2_with fail
                      go_ret
                      exact ⟨ret_i (by rw [HT.out]; first | rfl | simp [rcB]), BBw5.out⟩
            · go_wp2_with fail
              go_ret
              exact ⟨ret_i (by first | rfl | simp [rcB]), BBw1.out⟩
        · go_wp2_with fail
          go_ret
          exact ⟨ret_i (by first | rfl | simp [rcB]), by rw [← HV.out]; exact BBV.out⟩
      · go_wp2_with fail
        go_ret
        exact ⟨ret_i (by first | rfl | simp [rcB]), by rw [← HV.out]; exact BBV.out⟩
    · go_wp2_with fail
      go_ret
      exact ⟨ret_i (by first | rfl | simp [rcB]), by rw [← HV.out]; exact BBV.out⟩
  · go_wp2_with fail
    go_ret
    exact ⟨ret_i (by first | rfl | simp [rcB]), by rw [← HV.out]; exact BBV.out⟩

end Go.Proofs.YtpibeabokedpdaaGreatDoor.RCheckK5
end
section
namespace Go.Proofs.YtpibeabokedpdaaGreatDoor.RCheck
open Go.RowKit Go.Maps
open Go.Proofs.YtpibeabokedpdaaGreatDoor.SetMath
open Go.Proofs.YtpibeabokedpdaaGreatDoor.ValueMath
open Go.Proofs.YtpibeabokedpdaaGreatDoor.Base
open Go.Proofs.YtpibeabokedpdaaGreatDoor.Vals
open Go.Proofs.YtpibeabokedpdaaGreatDoor.Check0
open Go.Proofs.YtpibeabokedpdaaGreatDoor.May
open Go.Proofs.YtpibeabokedpdaaGreatDoor.MayR
open Go.Proofs.YtpibeabokedpdaaGreatDoor.RChk
open Go.Proofs.YtpibeabokedpdaaGreatDoor.RRnk
open Go.Proofs.YtpibeabokedpdaaGreatDoor.RCheck0
set_option linter.unusedVariables false
set_option linter.unusedSimpArgs false

theorem rc_chk {x : Vl} (hk : 1 ≤ x.kind ∧ x.kind ≤ 5) : rcB x.kind (!tOk x.text) (x.text != []) (x.list != []) (x.fields != []) (x.ranked != []) (emp x) (decide (Ris x.list)) (fAll x.fields) (rkd x.ranked) (x.list.all tOk) = chk x := by
  obtain ⟨k, t, l, f, r⟩ := x
  simp only at hk
  have hS : (S ([] : List Bs)).length = 0 := by rw [S_nil]; rfl
  have f0 : fAll [] = true := rfl
  have r0 : rkd [] = true := by unfold rkd rAll enames; rw [List.map_nil, S_nil]; rfl
  have hf : ∀ (h : f ≠ []), fAll f = hashOk f := fun h => fAll_hash (List.length_pos_iff.2 h)
  have hr : ∀ (h : r ≠ []), rkd r = rankOk r := fun h => rkd_rank (List.length_pos_iff.2 h)
  have hh0 : hashOk [] = false := rfl
  have hr0 : rankOk [] = false := by decide
  have t0 : tOk [] = true := rfl
  rw [Check.chk_k (by simp only; exact hk)]
  unfold rcB stray mayBe emp setOk lOk
  simp only
  rcases (show k = 1 ∨ k = 2 ∨ k = 3 ∨ k = 4 ∨ k = 5 by omega) with rfl | rfl | rfl | rfl | rfl
  · by_cases hl : l = [] <;> by_cases hff : f = [] <;> by_cases hrr : r = [] <;> cases ht : tOk t <;> by_cases htt : t = [] <;> simp_all
  · by_cases hl : l = [] <;> by_cases hff : f = [] <;> by_cases hrr : r = [] <;> cases ht : tOk t <;> by_cases htt : t = [] <;> cases ha : l.all tOk <;> simp_all
  · by_cases hl : l = [] <;> by_cases hff : f = [] <;> by_cases hrr : r = [] <;> cases ht : tOk t <;> by_cases htt : t = [] <;> cases ha : hashOk f <;> simp_all
  · by_cases hl : l = [] <;> by_cases hff : f = [] <;> by_cases hrr : r = [] <;> cases ht : tOk t <;> by_cases htt : t = [] <;> cases ha : l.all tOk <;> by_cases hri : Ris l <;> simp_all
  · by_cases hl : l = [] <;> by_cases hff : f = [] <;> by_cases hrr : r = [] <;> cases ht : tOk t <;> by_cases htt : t = [] <;> cases ha : rankOk r <;> simp_all
set_option maxHeartbeats 2000000 in
set_option maxRecDepth 100000 in
theorem rraw0 (k : Int) (hk : k < 1 ∨ 5 < k) (X : ByteArray) (aa ba ca : Option Addr) (an bn cn ac bc cc : Nat) (w : World) :
    Calls Tryz.prog 103 #[.agg #[.int .i64 k, .string X, .slice aa an ac, .slice ba bn bc, .slice ca cn cc]] w fun e w' => e = .returned (.int .i64 130) ∧ Below w.heap.size w w' := by
  by_cases h1 : k < 1
  · go_enter Tryz.func103, Tryz.ntmps103
    go_wp2_with fail
    go_ret
    exact ⟨rfl, FRow.bnew w _⟩
  · have h5 : 5 < k := by omega
    go_enter Tryz.func103, Tryz.ntmps103
    go_wp2_with fail
    go_ret
    exact ⟨rfl, FRow.bnew w _⟩
theorem rcheck_call {w : World} {v : Value} {x : Vl} (h : VA w v x) (hf : Wel x) :
    Calls Tryz.prog 103 #[v] w fun e w' => e = .returned (.int .i64 (chk x)) ∧ Below w.heap.size w w' := by
  obtain ⟨a, b, c, rfl, h1, h2, h3⟩ := h
  obtain ⟨aa, ac, rfl, _, _⟩ := id h1
  obtain ⟨ba, bc, rfl, _, _⟩ := id h2
  obtain ⟨ca, cc, rfl, _, _⟩ := id h3
  by_cases hk : x.kind < 1 ∨ 5 < x.kind
  · have e1 : chk x = 130 := by unfold chk; rw [if_pos hk]
    rw [e1]
    exact rraw0 x.kind hk (mk x.text) aa ba ca _ _ _ ac bc cc w
  · have hl := hf.l
    have hff := hf.f
    unfold FRow.big at hff
    have hk2 : 1 ≤ x.kind ∧ x.kind ≤ 5 := by omega
    rw [← rc_chk hk2]
    have HSL : Hid (∀ W, Below w.heap.size w W → SL TT W (.slice aa x.list.length ac) x.list) := hid_of fun W hW => h1.below hW
    have HEm : Hid (∀ W, Below w.heap.size w W → Calls Tryz.prog 144 #[.agg #[.int .i64 x.kind, .string (mk x.text), .slice aa x.list.length ac, .slice ba (List.length x.fields) bc, .slice ca (List.length x.ranked) cc]] W fun e w' => e = .returned (.bool (emp x)) ∧ Below W.heap.size W w') := hid_of fun W hW => empty_raw x.kind (mk x.text) aa ba ca _ _ _ ac bc cc W
    have HVa : Hid (∀ W, Below w.heap.size w W → Calls Tryz.prog 145 #[.slice aa x.list.length ac] W fun e w' => e = .returned (.bool (decide (Ris x.list))) ∧ Below W.heap.size W w') := hid_of fun W hW => (Small.rvalid_call (h1.below hW) (by omega)).mono fun e w' ⟨q1, m, q2⟩ => ⟨q1, by rw [q2]; exact bel_drewN _ _⟩
    have HFo : Hid (∀ W, Below w.heap.size w W → Calls Tryz.prog 146 #[.slice ba (List.length x.fields) bc] W fun e w' => e = .returned (.bool (fAll x.fields)) ∧ Below W.heap.size W w') := hid_of fun W hW => fields_call (h2.below hW) (by omega) hf.fs
    have HRo : Hid (∀ W, Below w.heap.size w W → Calls Tryz.prog 147 #[.slice ca (List.length x.ranked) cc] W fun e w' => e = .returned (.bool (rkd x.ranked)) ∧ Below W.heap.size W w') := hid_of fun W hW => ranked_call (h3.below hW) hf.r24 hf.rs
    have k1 : decide ((1048576 : Int) < ((mk x.text).size : Int)) = !tOk x.text := by unfold tOk; rw [mk_size, Bool.eq_iff_iff]; simp; omega
    have k2 : (mk x.text).toList.isEmpty = !(x.text != []) := by rw [mk_list]; cases x.text <;> rfl
    rcases (show x.kind = 1 ∨ x.kind = 2 ∨ x.kind = 3 ∨ x.kind = 4 ∨ x.kind = 5 by omega) with q | q | q | q | q
    · rw [q] at HEm ⊢
      exact RCheckK1.rraw1 (mk x.text) aa ba ca _ _ _ ac bc cc x.list _ _ _ _ _ _ _ _ _ w (by omega) (hid_of rfl) k1 k2 (by rw [nil_len]; simp) (by rw [nil_len]; simp) (by rw [nil_len]; simp) (by rw [nil_len]) (by rw [nil_len]) (by rw [nil_len]) HSL HEm HVa HFo HRo
    · rw [q] at HEm ⊢
      exact RCheckK2.rraw2 (mk x.text) aa ba ca _ _ _ ac bc cc x.list _ _ _ _ _ _ _ _ _ w (by omega) (hid_of rfl) k1 k2 (by rw [nil_len]; simp) (by rw [nil_len]; simp) (by rw [nil_len]; simp) (by rw [nil_len]) (by rw [nil_len]) (by rw [nil_len]) HSL HEm HVa HFo HRo
    · rw [q] at HEm ⊢
      exact RCheckK3.rraw3 (mk x.text) aa ba ca _ _ _ ac bc cc x.list _ _ _ _ _ _ _ _ _ w (by omega) (hid_of rfl) k1 k2 (by rw [nil_len]; simp) (by rw [nil_len]; simp) (by rw [nil_len]; simp) (by rw [nil_len]) (by rw [nil_len]) (by rw [nil_len]) HSL HEm HVa HFo HRo
    · rw [q] at HEm ⊢
      exact RCheckK4.rraw4 (mk x.text) aa ba ca _ _ _ ac bc cc x.list _ _ _ _ _ _ _ _ _ w (by omega) (hid_of rfl) k1 k2 (by rw [nil_len]; simp) (by rw [nil_len]; simp) (by rw [nil_len]; simp) (by rw [nil_len]) (by rw [nil_len]) (by rw [nil_len]) HSL HEm HVa HFo HRo
    · rw [q] at HEm ⊢
      exact RCheckK5.rraw5 (mk x.text) aa ba ca _ _ _ ac bc cc x.list _ _ _ _ _ _ _ _ _ w (by omega) (hid_of rfl) k1 k2 (by rw [nil_len]; simp) (by rw [nil_len]; simp) (by rw [nil_len]; simp) (by rw [nil_len]) (by rw [nil_len]) (by rw [nil_len]) HSL HEm HVa HFo HRo
end Go.Proofs.YtpibeabokedpdaaGreatDoor.RCheck
end
