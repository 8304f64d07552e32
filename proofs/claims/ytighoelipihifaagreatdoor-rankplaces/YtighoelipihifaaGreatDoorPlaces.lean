/- The law RankPlaces. -/
import Derived.Test.YtighoelipihifaaGreatDoorPlacesMath
import Derived.Test.YtighoelipihifaaGreatDoorLawOf
import Derived.BigQuiet
import Derived.Test.YtighoelipihifaaGreatDoorLast3
import Derived.Deep.CutRange
import Derived.Deep.RegionHeld3
namespace Go.Proofs.YtighoelipihifaaGreatDoor.Places
open Go.RowKit Go.Maps Go.Sort
open Go.Proofs.YtighoelipihifaaGreatDoor.MapMath
open Go.Proofs.YtighoelipihifaaGreatDoor.RankMath
open Go.Proofs.YtighoelipihifaaGreatDoor.RankMath2
open Go.Proofs.YtighoelipihifaaGreatDoor.RankMath3
open Go.Proofs.YtighoelipihifaaGreatDoor.PlacesMath
open Go.Proofs.YtighoelipihifaaGreatDoor.Base
open Go.Proofs.YtighoelipihifaaGreatDoor.Rank1
open Go.Proofs.YtighoelipihifaaGreatDoor.Run
open Go.Proofs.YtighoelipihifaaGreatDoor.Seek
open Go.Proofs.YtighoelipihifaaGreatDoor.Of
open Go.Proofs.YtighoelipihifaaGreatDoor.Twin
open Go.Proofs.YtighoelipihifaaGreatDoor.Ref1
open Go.Proofs.YtighoelipihifaaGreatDoor.Sure
open Go.Proofs.YtighoelipihifaaGreatDoor.LawOf (eqPn)
open Go.Proofs.YtighoelipihifaaGreatDoor.Parse (Has)
set_option linter.unusedVariables false
set_option linter.unusedSimpArgs false
theorem run_fs {L : EL} {w w' : World} {e : Ending} {V : World} {n : Nat} (hn : L.length = n) (h : RunE L w e w') (hV : Below V.heap.size V w) : ∃ a c, e = .returned (.slice a n c) ∧ Hid (Below V.heap.size V w' ∧ FS w' (.slice a n c) L ∧ Below w.heap.size w w') := by
  obtain ⟨v, rfl, o, b⟩ := h
  obtain ⟨a, c, rfl, hc, h'⟩ := id (fs_row o)
  rw [hn]
  exact ⟨a, c, rfl, hid_of ⟨hV.trans (b.mono hV.size), by have := fs_row o; rw [hn] at this; exact this, b⟩⟩
theorem allMay_perm {a b : EL} (h : a.Perm b) (k : AllMay a) : AllMay b := fun e he => k e (h.mem_iff.2 he)
theorem neqP (a : Nat) (w : World) : (binOp .neq 24 (.pointer (some ⟨a, 0, none⟩)) (.pointer none)).run Tryz.prog w = .ok (.bool true) w := by kernel_rfl
theorem str_geq (x y : Bs) (h : x < y) : Op.bytesLess (mk x).toList (mk y).toList = true := by rw [Lib.toList_data, Lib.toList_data, bytesLess_eq]; exact decide_eq_true h
set_option maxHeartbeats 40000000 in
set_option maxRecDepth 100000 in
theorem places_call (v : Value) (l : EL) (w : World) (h : FS w v l) (hn : l.length ≤ big) (hk : ∀ p ∈ l, p.1.length ≤ 140737488355328) (hh : Has w) : Calls Tryz.prog 5 #[v] w fun e w' => e = .returned (.bool true) ∧ Below w.heap.size w w' := by
  have HF := hid_of h
  have HH := hid_of hh
  have HK := hid_of hk
  have H1 := hid_of (twin_call v l w h hn)
  have HQ := hid_of eqP
  have HQn := hid_of eqPn
  obtain ⟨a, c, rfl, hc, h'⟩ := h
  clear h' hk hh
  go_enter Tryz.func5, Tryz.ntmps5
  go_wp2_with fail
  refine H1.out.mono ?_
  rintro e w1 ⟨v1, rfl, o1, b1⟩
  have H2 := hid_of (of_call v1 l w1 (fs_row o1) hn HK.out)
  have B1 := hid_of b1
  clear o1 b1 H1
  go_wp2_with fail
  refine H2.out.mono ?_
  rintro e w2 ⟨b2, hcase⟩
  have B2 := hid_of (Base.bel B1.out b2 (Nat.le_refl _))
  have H3 := hid_of (rof_call (.slice a l.length c) l w2 (HF.out.below B2.out) hn)
  clear b2 H2 B1
  rcases hcase with ⟨hA, rfl⟩ | ⟨hA, hU, rfl⟩ | ⟨hA, hU, b, rfl, rk⟩
  · go_wp2_with fail
    refine H3.out.mono ?_
    rintro e w3 ⟨b3, ⟨_, rfl⟩ | ⟨hA2, _⟩ | ⟨hA2, _⟩⟩
    rotate_left
    · exact absurd hA2 hA
    · exact absurd hA2 hA
    have B3 := hid_of (Base.bel B2.out b3 (Nat.le_refl _))
    have H5 := hid_of (sure_call w3 (HH.out.later B3.out))
    clear b3 H3
    go_wp2_with fail
    refine H5.out.mono ?_
    rintro e w5 hw5
    obtain ⟨rfl, b5⟩ := hw5
    have B5 := hid_of (Base.bel B3.out b5 (Nat.le_refl _))
    clear b5
    go_wp2_with fail
    go_ret
    exact ⟨rfl, B5.out⟩
  · go_wp2_with fail
    refine H3.out.mono ?_
    rintro e w3 ⟨b3, ⟨hA2, _⟩ | ⟨_, _, rfl⟩ | ⟨_, hU2, _⟩⟩
    · exact absurd hA hA2
    rotate_left
    · exact absurd hU2 hU
    have B3 := hid_of (Base.bel B2.out b3 (Nat.le_refl _))
    have H5 := hid_of (sure_call w3 (HH.out.later B3.out))
    clear b3 H3
    go_wp2_with fail
    refine H5.out.mono ?_
    rintro e w5 hw5
    obtain ⟨rfl, b5⟩ := hw5
    have B5 := hid_of (Base.bel B3.out b5 (Nat.le_refl _))
    clear b5
    go_wp2_with fail
    go_ret
    exact ⟨rfl, B5.out⟩
  · have qP := HQ.out b
    clear H3
    have HA := hid_of hA
    have HS := hid_of (srtL_srt hU)
    have HU := hid_of (srtL_uq hU)
    have HP := hid_of (srtL_perm l)
    have HV := hid_of fun (i : Nat) (hi : i < l.length) => val_get hU (srtL_perm l) hi
    have HLn : Hid ((srtL l).length = l.length) := hid_of (srtL_len l)
    have HL : Hid ((srtL l).length ≤ big) := hid_of (by rw [srtL_len]; exact hn)
    have HKL : Hid (∀ p ∈ srtL l, p.1.length ≤ 140737488355328) := hid_of fun p hp => HK.out p ((srtL_perm l).mem_iff.1 hp)
    have HSelf : Hid (AllMay (srtL l) ∧ srtL (srtL l) = srtL l) := hid_of ⟨allMay_perm (srtL_perm l).symm hA, srtL_self (srtL_srt hU) (srtL_uq hU)⟩
    have hl9 : l.length ≤ 9000000000000 := hn
    clear hA hU
    generalize srtL l = L at *
    obtain ⟨N, hN⟩ : ∃ N, N = l.length := ⟨_, rfl⟩
    have HNN := hid_of hN
    have R2 := hid_of rk
    have HLi : Hid (∀ W, Below w2.heap.size w2 W → Calls Tryz.prog 13 #[ptr b] W fun e w' => ∃ a c, e = .returned (.slice a N c) ∧ Hid (Below w2.heap.size w2 w' ∧ FS w' (.slice a N c) L ∧ Below W.heap.size W w')) := hid_of fun W hW => (list_call (R2.out.below hW) HL.out).mono fun e w' h => run_fs (HLn.out.trans hN.symm) h hW
    have HLe := hid_of fun (W : World) (hW : Below w2.heap.size w2 W) => len_call (R2.out.below hW)
    rw [HLn.out, ← hN] at HLe
    have HSc := hid_of fun (W : World) (hW : Below w2.heap.size w2 W) (k : Bs) (hk : k.length ≤ 140737488355328) => score_call (R2.out.below hW) k hk
    have HPf := hid_of fun (W : World) (hW : Below w2.heap.size w2 W) (k : Bs) (hk : k.length ≤ 140737488355328) (r : Bool) => place_call (R2.out.below hW) k r hk HL.out
    have HSl : Hid (∀ W, Below w2.heap.size w2 W → ∀ (f t : Int) (r : Bool) (e : Ent), -9223372036854775808 ≤ f → f ≤ 9223372036854775807 → -9223372036854775808 ≤ t → t ≤ 9223372036854775807 → slS L f t r = [e] → Calls Tryz.prog 17 #[ptr b, .int .i64 f, .int .i64 t, .bool r] W fun e' w' => ∃ a c, e' = .returned (.slice a 1 c) ∧ Hid (Below w2.heap.size w2 w' ∧ FS w' (.slice a 1 c) [e] ∧ Below W.heap.size W w')) := hid_of fun W hW f t r e h1 h2 h3 h4 he => (slice_call (R2.out.below hW) f t r HL.out h1 h2 h3 h4).mono fun e' w' h => by rw [he] at h; exact run_fs rfl h hW
    have HLN : Hid (L.length = N) := hid_of (HLn.out.trans hN.symm)
    rw [← hN] at hl9
    unfold ptr at *
    have HFS := hid_of (And.intro (HF.out.below B2.out) hN)
    rw [← hN] at HFS
    clear rk HLn HF hn
    go_wp2_with fail
    refine (HLi.out w2 (Below.refl _ w2)).mono ?_
    rintro e w3 ⟨a3, c3, rfl, F3⟩
    have e0 : ((N : Int) != (N : Int)) = false := by simp
    have HE := hid_of hN
    subst hN
    go_wp2_with fail
    refine (HLe.out w3 F3.out.1).mono ?_
    rintro e w4 ⟨rfl, rfl⟩
    go_wp2_with fail
    go_loopg [8] l.length (fun g s8 wx => ∃ i : Nat, i ≤ l.length ∧ l.length ≤ i + g ∧ s8 = .int .i64 (i : Int) ∧ Hid (wx = w4))
    case atStart => exact ⟨0, by omega, by omega, rfl, hid_of rfl⟩
    case round =>
      obtain ⟨i, hi, hg, rfl, HWX⟩ := hrel
      rw [HWX.out]
      by_cases hlt : i < l.length
      · obtain ⟨g', rfl⟩ : ∃ g', gk = g' + 1 := ⟨gk - 1, by omega⟩
        have FS4 : FS w4 (.slice a l.length c) l := HFS.out.1.below F3.out.1
        obtain ⟨ga, oa, ea, hat⟩ := FS4.at hlt
        obtain ⟨c0, c1⟩ := hat i hlt
        subst ea
        have HSc1 := hid_of (HSc.out w4 F3.out.1 (l[i]'hlt).1 (HK.out _ (List.getElem_mem hlt)))
        rw [(HV.out i hlt).1, (HV.out i hlt).2] at HSc1
        have g1 : (i : Int) < (l.length : Int) := by omega
        have e4 : IntKind.i64.wrap ((i : Int) + 1) = (i : Int) + 1 := IntWalk.i64_in _ (by omega)
        clear FS4 hat
        generalize mk (l[i]'hlt).1 = X at *
        generalize hxx : (l[i]'hlt).2 = xx at *
        clear hxx
        have e5 : (xx != xx) = false := by simp
        go_wp2_with fail
        refine HSc1.out.mono ?_
        rintro e w5 ⟨rfl, hw5⟩
        rw [hw5]
        clear hw5 HSc1
        go_wp2_with fail
        go_roundg g'
        case measure => omega
        case rel => exact ⟨i + 1, by omega, by omega, by rw [show ((i + 1 : Nat) : Int) = (i : Int) + 1 from by omega], hid_of rfl⟩
      · have gi : ¬ (i : Int) < (l.length : Int) := by omega
        clear hlt
        go_wp2_with fail
        have HCP : Hid (l.length ≤ c3) := hid_of (by have h1 := F3.out.2.1.cap; have h2 := HLN.out; omega)
        have FL : Hid (∀ W, Below w4.heap.size w4 W → FS W (.slice a3 l.length c3) L) := hid_of fun W hW => F3.out.2.1.below hW
        have B4 := hid_of F3.out.1
        have HCF : Hid (∀ k (hk : k < L.length) W, Below w4.heap.size w4 W → FS W (.slice (ca a3 c3 k) 1 (c3 - k)) [L[k]'hk]) := hid_of fun k hk W hW => by
          have h1 := FL.out W hW
          have hl := HLN.out
          rw [← hl] at h1
          have h2 := h1.drop k (by omega)
          have h3 : FS W (.slice (ca a3 c3 k) (L.drop k).length (c3 - k)) (L.drop k) := by rw [List.length_drop]; exact h2
          have h4 := h3.take 1 (by rw [List.length_drop]; omega)
          rwa [one_of L hk] at h4
        clear HV HFS HSc HK HP HLe F3 HE HWX hi hg gi
        have e0' := e0
        generalize l.length = N at *
        go_loopg [11] N (fun g s11 wx => ∃ k : Nat, k ≤ N ∧ N ≤ k + g ∧ s11 = .int .i64 (k : Int) ∧ Hid (Below w4.heap.size w4 wx))
        case atStart => exact ⟨0, by omega, by omega, rfl, hid_of (Below.refl _ _)⟩
        case round =>
          obtain ⟨k, hk, hg, rfl, HI⟩ := hrel
          by_cases hkN : k < N
          · obtain ⟨g', rfl⟩ : ∃ g', gk = g' + 1 := ⟨gk - 1, by omega⟩
            have hkL : k < L.length := by have := HLN.out; omega
            obtain ⟨ga, oa, ea, hat0⟩ := (FL.out w4 (Below.refl _ _)).at hkL
            subst ea
            have HC : Hid (∀ W, Below w4.heap.size w4 W → ∀ j (hj : j < L.length), W.cell? ⟨ga, oa + j * 2, none⟩ = some (.string (mk (L[j]'hj).1)) ∧ W.cell? ⟨ga, oa + j * 2 + 1, none⟩ = some (.int .i64 (L[j]'hj).2)) := hid_of fun W hW j hj => ⟨cell_on hW (hat0 j hj).1, cell_on hW (hat0 j hj).2⟩
            have HKK := hid_of (HKL.out _ (List.getElem_mem hkL))
            have HPF := hid_of (place_f HU.out hkL)
            have HPT : Hid (placeS L (L[k]'hkL).1 true = (N : Int) - 1 - (k : Int)) := hid_of (by rw [place_t HU.out hkL, HLN.out]; omega)
            have HOK := hid_of (ok_get L hkL)
            have HP1 := hid_of fun (W : World) (hW : Below w2.heap.size w2 W) => HPf.out W hW (L[k]'hkL).1 HKK.out false
            rw [HPF.out, HOK.out] at HP1
            have HP2 := hid_of fun (W : World) (hW : Below w2.heap.size w2 W) => HPf.out W hW (L[k]'hkL).1 HKK.out true
            rw [HPT.out, HOK.out] at HP2
            have HS1 := hid_of fun (W : World) (hW : Below w2.heap.size w2 W) => HSl.out W hW (k : Int) (k : Int) false (L[k]'hkL) (by omega) (by omega) (by omega) (by omega) (slice_f L hkL)
            have HS2 := hid_of fun (W : World) (hW : Below w2.heap.size w2 W) => HSl.out W hW (-1 - (k : Int)) (-1 - (k : Int)) true (L[k]'hkL) (by omega) (by omega) (by omega) (by omega) (slice_t L hkL)
            have HSm : Hid (∀ W a' c', Below w4.heap.size w4 W → FS W (.slice a' 1 c') [L[k]'hkL] → Calls Tryz.prog 10 #[.slice a' 1 c', .slice (ca (some ⟨ga, oa, none⟩) c3 k) 1 (c3 - k)] W fun e w' => e = .returned (.bool true) ∧ Below W.heap.size W w') := hid_of fun W a' c' hW hf => by
              have h1 := same_call _ (.slice (ca (some ⟨ga, oa, none⟩) c3 k) 1 (c3 - k)) [L[k]'hkL] [L[k]'hkL] W hf (HCF.out k hkL W hW) (by unfold big; simp) (by unfold big; simp)
              rw [decide_eq_true rfl] at h1
              exact h1
            have hcut : ∀ w, (Instr.slice 22 (.slice (some ⟨ga, oa, none⟩) N c3) (some (.int .i64 (k : Int))) (some (.int .i64 ((k : Int) + 1))) none).run Tryz.prog w = .ok (.slice (ca (some ⟨ga, oa, none⟩) c3 k) 1 (c3 - k)) w := fun w => by
              have h1 := cut_any (some ⟨ga, oa, none⟩) N c3 k (k + 1) (by omega) (by have := HCP.out; omega) w
              rw [show k + 1 - k = 1 by omega, show (((k + 1 : Nat) : Int)) = (k : Int) + 1 by omega] at h1
              exact h1
            have HB24 : Hid (∀ W, Below w4.heap.size w4 W → Below w2.heap.size w2 W) := hid_of fun W hW => B4.out.trans (hW.mono B4.out.size)
            have hXk := (HC.out wr HI.out k hkL)
            have HXk := hid_of fun (W : World) (hW : Below w4.heap.size w4 W) => (HC.out W hW k hkL).1
            have g1 : (k : Int) < (N : Int) := by omega
            have f1 : ((k : Int) != (k : Int)) = false := by simp
            have f2 : IntKind.i64.wrap ((N : Int) - 1) = (N : Int) - 1 := IntWalk.i64_in _ (by omega)
            have f3 : IntKind.i64.wrap ((N : Int) - 1 - (k : Int)) = (N : Int) - 1 - (k : Int) := IntWalk.i64_in _ (by omega)
            have f4 : (((N : Int) - 1 - (k : Int)) != ((N : Int) - 1 - (k : Int))) = false := by simp
            have f5 : IntKind.i64.wrap ((k : Int) + 1) = (k : Int) + 1 := IntWalk.i64_in _ (by omega)
            have f6 : IntKind.i64.wrap (-1 - (k : Int)) = -1 - (k : Int) := IntWalk.i64_in _ (by omega)
            clear HPF HPT HOK hat0
            go_upto_region 17 with fail
            go_cut [130] from 81 to 198 (fun s130 wx => s130 = .bool false ∧ Hid (Below w4.heap.size w4 wx))
            case first =>
              rcases Nat.eq_zero_or_pos k with hk0 | hk0
              · have z1 : decide ((k : Int) > 0) = false := decide_eq_false (by omega)
                have z2 : decide ((0 : Int) < (k : Int)) = false := decide_eq_false (by omega)
                have z3 : decide (0 < k) = false := decide_eq_false (by omega)
                obtain ⟨x0, x1⟩ := hXk
                clear HC hk0
                generalize mk (L[k]'hkL).1 = X at *
                generalize (L[k]'hkL).2 = xx at *
                go_wp2_with fail
                go_quiet (fail)
                go_wp2_with fail
                go_meet
                case rel => exact ⟨rfl, hid_of (bdrew HI.out nq)⟩
              · obtain ⟨K1, hK1⟩ : ∃ K1, k = K1 + 1 := ⟨k - 1, by omega⟩
                have hK1L : K1 + 1 < L.length := by omega
                have hnx := next_of HS.out hK1L
                have hK1' : K1 < L.length := by omega
                have hY := HC.out wr HI.out K1 hK1'
                have z1 : decide ((k : Int) > 0) = true := decide_eq_true (by omega)
                have z2 : decide ((0 : Int) < (k : Int)) = true := decide_eq_true (by omega)
                have z3 : decide (0 < k) = true := decide_eq_true (by omega)
                have z4 : IntKind.i64.wrap ((k : Int) - 1) = (K1 : Int) := by rw [IntWalk.i64_in _ (by omega)]; omega
                have z5 : (k : Int) - 1 = (K1 : Int) := by omega
                have z6 : (K1 : Int) < (N : Int) := by omega
                have hEk : L[k]'hkL = L[K1 + 1]'hK1L := by congr 1
                rw [← hEk] at hnx
                obtain ⟨x0, x1⟩ := hXk
                obtain ⟨y0, y1⟩ := hY
                clear HC hEk hK1
                rcases hnx with hnx | ⟨hn1, hn2⟩
                · have t1 : decide ((L[K1]'hK1').2 > (L[k]'hkL).2) = false := decide_eq_false (by omega)
                  have t2 : decide ((L[k]'hkL).2 < (L[K1]'hK1').2) = false := decide_eq_false (by omega)
                  have t3 : ((L[K1]'hK1').2 == (L[k]'hkL).2) = false := by simpa using (by omega : (L[K1]'hK1').2 ≠ (L[k]'hkL).2)
                  clear hnx
                  generalize mk (L[k]'hkL).1 = X at *
                  generalize (L[k]'hkL).2 = xx at *
                  generalize mk (L[K1]'hK1').1 = Y at *
                  generalize (L[K1]'hK1').2 = yy at *
                  go_wp2_with fail
                  go_quiet (fail)
                  go_wp2_with fail
                  go_meet
                  case rel => exact ⟨rfl, hid_of (bdrew HI.out nq)⟩
                · have t4 := str_geq _ _ hn2
                  have t5 : ((mk (L[K1]'hK1').1).toList == (mk (L[k]'hkL).1).toList) = false := by
                    rw [Lib.toList_data, Lib.toList_data]
                    simpa [mk] using fun e => List.lt_irrefl _ (e ▸ hn2)
                  have t1 : decide ((L[K1]'hK1').2 > (L[k]'hkL).2) = false := decide_eq_false (by omega)
                  have t2 : decide ((L[k]'hkL).2 < (L[K1]'hK1').2) = false := decide_eq_false (by omega)
                  have t3 : ((L[K1]'hK1').2 == (L[k]'hkL).2) = true := by simpa using hn1
                  clear hn1 hn2
                  generalize mk (L[k]'hkL).1 = X at *
                  generalize (L[k]'hkL).2 = xx at *
                  generalize mk (L[K1]'hK1').1 = Y at *
                  generalize (L[K1]'hK1').2 = yy at *
                  go_wp2_with fail
                  go_quiet (fail)
                  go_wp2_with fail
                  go_meet
                  case rel => exact ⟨rfl, hid_of (bdrew HI.out nq)⟩
            case rest =>
              obtain ⟨rfl, HW⟩ := hcut
              obtain ⟨x0, x1⟩ := hXk
              clear HC x0 x1
              generalize mk (L[k]'hkL).1 = X at *
              generalize (L[k]'hkL).2 = xx at *
              have q0 := HXk.out wc HW.out
              go_wp2_with fail
              refine (HP1.out wc (HB24.out _ HW.out)).mono ?_
              rintro e w5 ⟨rfl, b5⟩
              have B5 : Hid (Below w4.heap.size w4 w5) := hid_of (HW.out.trans (b5.mono HW.out.size))
              have q1 := HXk.out w5 B5.out
              clear b5 q0 HW
              go_wp2_with fail
              refine (HP2.out _ (HB24.out _ B5.out)).mono ?_
              rintro e w6 ⟨rfl, b6⟩
              have B6 : Hid (Below w4.heap.size w4 w6) := hid_of (B5.out.trans (b6.mono B5.out.size))
              clear b6 q1 B5
              go_wp2_with fail
              refine Last.start (fun _ : World => True) 47 (by kernel_rfl) ?_
              refine Last.take3 (i := 0) (v := .int .i64 (k : Int)) rfl (by kernel_rfl) (by kernel_rfl) (by kernel_rfl) (by kernel_rfl) (by kernel_rfl) (fun _ _ _ h => h) (Or.inl ⟨by rfl, ?_⟩) trivial ?_
              · intro W hSW
                go_simp
              simp only [Act.put, List.setIfInBounds_toArray, List.set_cons_zero, List.set_cons_succ]
              refine Last.take3 (i := 1) (v := .int .i64 (k : Int)) rfl (by kernel_rfl) (by kernel_rfl) (by kernel_rfl) (by kernel_rfl) (by kernel_rfl) (fun _ _ _ h => h) (Or.inl ⟨by rfl, ?_⟩) trivial ?_
              · intro W hSW
                go_simp
              simp only [Act.put, List.setIfInBounds_toArray, List.set_cons_zero, List.set_cons_succ]
              refine Last.take3 (i := 2) (v := .bool false) rfl (by kernel_rfl) (by kernel_rfl) (by kernel_rfl) (by kernel_rfl) (by kernel_rfl) (fun _ _ _ h => h) (Or.inl ⟨by rfl, ?_⟩) trivial ?_
              · intro W hSW
                go_simp
              simp only [Act.put, List.setIfInBounds_toArray, List.set_cons_zero, List.set_cons_succ]
              refine Last.take3 (i := 3) (v := .bool false) rfl (by kernel_rfl) (by kernel_rfl) (by kernel_rfl) (by kernel_rfl) (by kernel_rfl) (fun _ _ _ h => h) (Or.inl ⟨by rfl, ?_⟩) trivial ?_
              · intro W hSW
                go_simp
              simp only [Act.put, List.setIfInBounds_toArray, List.set_cons_zero, List.set_cons_succ]
              refine Last.take3 (i := 4) (v := .bool true) rfl (by kernel_rfl) (by kernel_rfl) (by kernel_rfl) (by kernel_rfl) (by kernel_rfl) (fun _ _ _ h => h) (Or.inl ⟨by kernel_rfl, ?_⟩) trivial ?_
              · intro W hSW
                go_simp
              simp only [Act.put, List.setIfInBounds_toArray, List.set_cons_zero, List.set_cons_succ]
              refine Last.take3 (i := 5) (v := .bool false) rfl (by kernel_rfl) (by kernel_rfl) (by kernel_rfl) (by kernel_rfl) (by kernel_rfl) (fun _ _ _ h => h) (Or.inl ⟨by kernel_rfl, ?_⟩) trivial ?_
              · intro W hSW
                go_simp
              simp only [Act.put, List.setIfInBounds_toArray, List.set_cons_zero, List.set_cons_succ]
              refine Last.take3 (i := 6) (v := .bool false) rfl (by kernel_rfl) (by kernel_rfl) (by kernel_rfl) (by kernel_rfl) (by kernel_rfl) (fun _ _ _ h => h) (Or.inl ⟨by kernel_rfl, ?_⟩) trivial ?_
              · intro W hSW
                go_simp
              simp only [Act.put, List.setIfInBounds_toArray, List.set_cons_zero, List.set_cons_succ]
              refine Last.take3 (i := 7) (v := .bool false) rfl (by kernel_rfl) (by kernel_rfl) (by kernel_rfl) (by kernel_rfl) (by kernel_rfl) (fun _ _ _ h => h) (Or.inl ⟨by kernel_rfl, ?_⟩) trivial ?_
              · intro W hSW
                go_simp
              simp only [Act.put, List.setIfInBounds_toArray, List.set_cons_zero, List.set_cons_succ]
              refine Last.take3 (i := 8) (v := .int .i64 ((N : Int) - 1 - (k : Int))) rfl (by kernel_rfl) (by kernel_rfl) (by kernel_rfl) (by kernel_rfl) (by kernel_rfl) (fun _ _ _ h => h) (Or.inl ⟨by kernel_rfl, ?_⟩) trivial ?_
              · intro W hSW
                go_simp
              simp only [Act.put, List.setIfInBounds_toArray, List.set_cons_zero, List.set_cons_succ]
              refine Last.take3 (i := 9) (v := .slice (some ⟨ga, oa, none⟩) N c3) rfl (by kernel_rfl) (by kernel_rfl) (by kernel_rfl) (by kernel_rfl) (by kernel_rfl) (fun _ _ _ h => h) (Or.inl ⟨by kernel_rfl, ?_⟩) trivial ?_
              · intro W hSW
                go_simp
              simp only [Act.put, List.setIfInBounds_toArray, List.set_cons_zero, List.set_cons_succ]
              refine Last.take3 (i := 10) (v := .int .i64 (N : Int)) rfl (by kernel_rfl) (by kernel_rfl) (by kernel_rfl) (by kernel_rfl) (by kernel_rfl) (fun _ _ _ h => h) (Or.inl ⟨by kernel_rfl, ?_⟩) trivial ?_
              · intro W hSW
                go_simp
              simp only [Act.put, List.setIfInBounds_toArray, List.set_cons_zero, List.set_cons_succ]
              refine Last.take3 (i := 11) (v := .int .i64 ((N : Int) - 1)) rfl (by kernel_rfl) (by kernel_rfl) (by kernel_rfl) (by kernel_rfl) (by kernel_rfl) (fun _ _ _ h => h) (Or.inl ⟨by kernel_rfl, ?_⟩) trivial ?_
              · intro W hSW
                go_simp
              simp only [Act.put, List.setIfInBounds_toArray, List.set_cons_zero, List.set_cons_succ]
              refine Last.take3 (i := 12) (v := .int .i64 (k : Int)) rfl (by kernel_rfl) (by kernel_rfl) (by kernel_rfl) (by kernel_rfl) (by kernel_rfl) (fun _ _ _ h => h) (Or.inl ⟨by kernel_rfl, ?_⟩) trivial ?_
              · intro W hSW
                go_simp
              simp only [Act.put, List.setIfInBounds_toArray, List.set_cons_zero, List.set_cons_succ]
              refine Last.take3 (i := 13) (v := .int .i64 ((N : Int) - 1 - (k : Int))) rfl (by kernel_rfl) (by kernel_rfl) (by kernel_rfl) (by kernel_rfl) (by kernel_rfl) (fun _ _ _ h => h) (Or.inl ⟨by kernel_rfl, ?_⟩) trivial ?_
              · intro W hSW
                go_simp
              simp only [Act.put, List.setIfInBounds_toArray, List.set_cons_zero, List.set_cons_succ]
              refine Last.take3 (i := 14) (v := .bool false) rfl (by kernel_rfl) (by kernel_rfl) (by kernel_rfl) (by kernel_rfl) (by kernel_rfl) (fun _ _ _ h => h) (Or.inl ⟨by kernel_rfl, ?_⟩) trivial ?_
              · intro W hSW
                go_simp
              simp only [Act.put, List.setIfInBounds_toArray, List.set_cons_zero, List.set_cons_succ]
              refine Last.take3 (i := 15) (v := .bool false) rfl (by kernel_rfl) (by kernel_rfl) (by kernel_rfl) (by kernel_rfl) (by kernel_rfl) (fun _ _ _ h => h) (Or.inl ⟨by kernel_rfl, ?_⟩) trivial ?_
              · intro W hSW
                go_simp
              simp only [Act.put, List.setIfInBounds_toArray, List.set_cons_zero, List.set_cons_succ]
              refine Last.take3 (i := 16) (v := .bool false) rfl (by kernel_rfl) (by kernel_rfl) (by kernel_rfl) (by kernel_rfl) (by kernel_rfl) (fun _ _ _ h => h) (Or.inl ⟨by kernel_rfl, ?_⟩) trivial ?_
              · intro W hSW
                go_simp
              simp only [Act.put, List.setIfInBounds_toArray, List.set_cons_zero, List.set_cons_succ]
              refine Last.take3 (i := 17) (v := .bool true) rfl (by kernel_rfl) (by kernel_rfl) (by kernel_rfl) (by kernel_rfl) (by kernel_rfl) (fun _ _ _ h => h) (Or.inl ⟨by kernel_rfl, ?_⟩) trivial ?_
              · intro W hSW
                go_simp
              simp only [Act.put, List.setIfInBounds_toArray, List.set_cons_zero, List.set_cons_succ]
              refine Last.take3 (i := 18) (v := .bool false) rfl (by kernel_rfl) (by kernel_rfl) (by kernel_rfl) (by kernel_rfl) (by kernel_rfl) (fun _ _ _ h => h) (Or.inl ⟨by kernel_rfl, ?_⟩) trivial ?_
              · intro W hSW
                go_simp
              simp only [Act.put, List.setIfInBounds_toArray, List.set_cons_zero, List.set_cons_succ]
              refine Last.take3 (i := 19) (v := .bool false) rfl (by kernel_rfl) (by kernel_rfl) (by kernel_rfl) (by kernel_rfl) (by kernel_rfl) (fun _ _ _ h => h) (Or.inl ⟨by kernel_rfl, ?_⟩) trivial ?_
              · intro W hSW
                go_simp
              simp only [Act.put, List.setIfInBounds_toArray, List.set_cons_zero, List.set_cons_succ]
              refine Last.take3 (i := 20) (v := .bool false) rfl (by kernel_rfl) (by kernel_rfl) (by kernel_rfl) (by kernel_rfl) (by kernel_rfl) (fun _ _ _ h => h) (Or.inl ⟨by kernel_rfl, ?_⟩) trivial ?_
              · intro W hSW
                go_simp
              simp only [Act.put, List.setIfInBounds_toArray, List.set_cons_zero, List.set_cons_succ]
              refine Last.take3 (i := 21) (v := .pointer (some ⟨b, 0, none⟩)) rfl (by kernel_rfl) (by kernel_rfl) (by kernel_rfl) (by kernel_rfl) (by kernel_rfl) (fun _ _ _ h => h) (Or.inl ⟨by kernel_rfl, ?_⟩) trivial ?_
              · intro W hSW
                go_simp
              simp only [Act.put, List.setIfInBounds_toArray, List.set_cons_zero, List.set_cons_succ]
              refine Last.take3 (i := 22) (v := .int .i64 (k : Int)) rfl (by kernel_rfl) (by kernel_rfl) (by kernel_rfl) (by kernel_rfl) (by kernel_rfl) (fun _ _ _ h => h) (Or.inl ⟨by kernel_rfl, ?_⟩) trivial ?_
              · intro W hSW
                go_simp
              simp only [Act.put, List.setIfInBounds_toArray, List.set_cons_zero, List.set_cons_succ]
              refine Last.take3 (i := 23) (v := .int .i64 (k : Int)) rfl (by kernel_rfl) (by kernel_rfl) (by kernel_rfl) (by kernel_rfl) (by kernel_rfl) (fun _ _ _ h => h) (Or.inl ⟨by kernel_rfl, ?_⟩) trivial ?_
              · intro W hSW
                go_simp
              simp only [Act.put, List.setIfInBounds_toArray, List.set_cons_zero, List.set_cons_succ]
              refine Last.take3 (i := 25) (v := .slice (some ⟨ga, oa, none⟩) N c3) rfl (by kernel_rfl) (by kernel_rfl) (by kernel_rfl) (by kernel_rfl) (by kernel_rfl) (fun _ _ _ h => h) (Or.inl ⟨by kernel_rfl, ?_⟩) trivial ?_
              · intro W hSW
                go_simp
              simp only [Act.put, List.setIfInBounds_toArray, List.set_cons_zero, List.set_cons_succ]
              refine Last.take3 (i := 26) (v := .int .i64 (k : Int)) rfl (by kernel_rfl) (by kernel_rfl) (by kernel_rfl) (by kernel_rfl) (by kernel_rfl) (fun _ _ _ h => h) (Or.inl ⟨by kernel_rfl, ?_⟩) trivial ?_
              · intro W hSW
                go_simp
              simp only [Act.put, List.setIfInBounds_toArray, List.set_cons_zero, List.set_cons_succ]
              refine Last.take3 (i := 27) (v := .int .i64 (k : Int)) rfl (by kernel_rfl) (by kernel_rfl) (by kernel_rfl) (by kernel_rfl) (by kernel_rfl) (fun _ _ _ h => h) (Or.inl ⟨by kernel_rfl, ?_⟩) trivial ?_
              · intro W hSW
                go_simp
              simp only [Act.put, List.setIfInBounds_toArray, List.set_cons_zero, List.set_cons_succ]
              refine Last.take3 (i := 28) (v := .int .i64 ((k : Int) + 1)) rfl (by kernel_rfl) (by kernel_rfl) (by kernel_rfl) (by kernel_rfl) (by kernel_rfl) (fun _ _ _ h => h) (Or.inl ⟨by kernel_rfl, ?_⟩) trivial ?_
              · intro W hSW
                go_simp
              simp only [Act.put, List.setIfInBounds_toArray, List.set_cons_zero, List.set_cons_succ]
              refine Last.take3 (i := 29) (v := .slice (ca (some ⟨ga, oa, none⟩) c3 k) 1 (c3 - k)) rfl (by kernel_rfl) (by kernel_rfl) (by kernel_rfl) (by kernel_rfl) (by kernel_rfl) (fun _ _ _ h => h) (Or.inl ⟨by kernel_rfl, ?_⟩) trivial ?_
              · intro W hSW
                go_simp
              simp only [Act.put, List.setIfInBounds_toArray, List.set_cons_zero, List.set_cons_succ]
              refine Last.one (i := 24) rfl (by kernel_rfl) ?_
              intro K' hK0
              have hK := hid_of hK0
              clear hK0
              go_simp
              refine (HS1.out w6.drew (HB24.out _ B6.out.drew)).mono ?_
              rintro e w7 ⟨a7, c7, rfl, F7⟩
              have B7 : Hid (Below w4.heap.size w4 w7) := hid_of (B6.out.drew.trans (F7.out.2.2.mono B6.out.drew.size))
              refine hK.out _ _ (fun _ => trivial) ?_
              clear hK K'
              try simp only [Act.put, List.setIfInBounds_toArray, List.set_cons_zero, List.set_cons_succ]
              refine Last.one (i := 30) rfl (by kernel_rfl) ?_
              intro K' hK0
              have hK := hid_of hK0
              clear hK0
              go_simp
              refine (HSm.out w7 a7 c7 B7.out F7.out.2.1).mono ?_
              rintro e w8 ⟨rfl, b8⟩
              have B8 : Hid (Below w4.heap.size w4 w8) := hid_of (B7.out.trans (b8.mono B7.out.size))
              clear b8
              refine hK.out _ _ (fun _ => trivial) ?_
              clear hK K'
              try simp only [Act.put, List.setIfInBounds_toArray, List.set_cons_zero, List.set_cons_succ]
              refine Last.take3 (i := 31) (v := .bool false) rfl (by kernel_rfl) (by kernel_rfl) (by kernel_rfl) (by kernel_rfl) (by kernel_rfl) (fun _ _ _ h => h) (Or.inl ⟨by kernel_rfl, ?_⟩) trivial ?_
              · intro W hSW
                go_simp
              simp only [Act.put, List.setIfInBounds_toArray, List.set_cons_zero, List.set_cons_succ]
              refine Last.take3 (i := 32) (v := .bool false) rfl (by kernel_rfl) (by kernel_rfl) (by kernel_rfl) (by kernel_rfl) (by kernel_rfl) (fun _ _ _ h => h) (Or.inl ⟨by kernel_rfl, ?_⟩) trivial ?_
              · intro W hSW
                go_simp
              simp only [Act.put, List.setIfInBounds_toArray, List.set_cons_zero, List.set_cons_succ]
              refine Last.take3 (i := 33) (v := .bool false) rfl (by kernel_rfl) (by kernel_rfl) (by kernel_rfl) (by kernel_rfl) (by kernel_rfl) (fun _ _ _ h => h) (Or.inl ⟨by kernel_rfl, ?_⟩) trivial ?_
              · intro W hSW
                go_simp
              simp only [Act.put, List.setIfInBounds_toArray, List.set_cons_zero, List.set_cons_succ]
              refine Last.take3 (i := 34) (v := .pointer (some ⟨b, 0, none⟩)) rfl (by kernel_rfl) (by kernel_rfl) (by kernel_rfl) (by kernel_rfl) (by kernel_rfl) (fun _ _ _ h => h) (Or.inl ⟨by kernel_rfl, ?_⟩) trivial ?_
              · intro W hSW
                go_simp
              simp only [Act.put, List.setIfInBounds_toArray, List.set_cons_zero, List.set_cons_succ]
              refine Last.take3 (i := 35) (v := .int .i64 (k : Int)) rfl (by kernel_rfl) (by kernel_rfl) (by kernel_rfl) (by kernel_rfl) (by kernel_rfl) (fun _ _ _ h => h) (Or.inl ⟨by kernel_rfl, ?_⟩) trivial ?_
              · intro W hSW
                go_simp
              simp only [Act.put, List.setIfInBounds_toArray, List.set_cons_zero, List.set_cons_succ]
              refine Last.take3 (i := 36) (v := .int .i64 (-1 - (k : Int))) rfl (by kernel_rfl) (by kernel_rfl) (by kernel_rfl) (by kernel_rfl) (by kernel_rfl) (fun _ _ _ h => h) (Or.inl ⟨by kernel_rfl, ?_⟩) trivial ?_
              · intro W hSW
                go_simp
              simp only [Act.put, List.setIfInBounds_toArray, List.set_cons_zero, List.set_cons_succ]
              refine Last.take3 (i := 37) (v := .int .i64 (k : Int)) rfl (by kernel_rfl) (by kernel_rfl) (by kernel_rfl) (by kernel_rfl) (by kernel_rfl) (fun _ _ _ h => h) (Or.inl ⟨by kernel_rfl, ?_⟩) trivial ?_
              · intro W hSW
                go_simp
              simp only [Act.put, List.setIfInBounds_toArray, List.set_cons_zero, List.set_cons_succ]
              refine Last.take3 (i := 38) (v := .int .i64 (-1 - (k : Int))) rfl (by kernel_rfl) (by kernel_rfl) (by kernel_rfl) (by kernel_rfl) (by kernel_rfl) (fun _ _ _ h => h) (Or.inl ⟨by kernel_rfl, ?_⟩) trivial ?_
              · intro W hSW
                go_simp
              simp only [Act.put, List.setIfInBounds_toArray, List.set_cons_zero, List.set_cons_succ]
              refine Last.take3 (i := 40) (v := .slice (some ⟨ga, oa, none⟩) N c3) rfl (by kernel_rfl) (by kernel_rfl) (by kernel_rfl) (by kernel_rfl) (by kernel_rfl) (fun _ _ _ h => h) (Or.inl ⟨by kernel_rfl, ?_⟩) trivial ?_
              · intro W hSW
                go_simp
              simp only [Act.put, List.setIfInBounds_toArray, List.set_cons_zero, List.set_cons_succ]
              refine Last.take3 (i := 41) (v := .int .i64 (k : Int)) rfl (by kernel_rfl) (by kernel_rfl) (by kernel_rfl) (by kernel_rfl) (by kernel_rfl) (fun _ _ _ h => h) (Or.inl ⟨by kernel_rfl, ?_⟩) trivial ?_
              · intro W hSW
                go_simp
              simp only [Act.put, List.setIfInBounds_toArray, List.set_cons_zero, List.set_cons_succ]
              refine Last.take3 (i := 42) (v := .int .i64 (k : Int)) rfl (by kernel_rfl) (by kernel_rfl) (by kernel_rfl) (by kernel_rfl) (by kernel_rfl) (fun _ _ _ h => h) (Or.inl ⟨by kernel_rfl, ?_⟩) trivial ?_
              · intro W hSW
                go_simp
              simp only [Act.put, List.setIfInBounds_toArray, List.set_cons_zero, List.set_cons_succ]
              refine Last.take3 (i := 43) (v := .int .i64 ((k : Int) + 1)) rfl (by kernel_rfl) (by kernel_rfl) (by kernel_rfl) (by kernel_rfl) (by kernel_rfl) (fun _ _ _ h => h) (Or.inl ⟨by kernel_rfl, ?_⟩) trivial ?_
              · intro W hSW
                go_simp
              simp only [Act.put, List.setIfInBounds_toArray, List.set_cons_zero, List.set_cons_succ]
              refine Last.take3 (i := 44) (v := .slice (ca (some ⟨ga, oa, none⟩) c3 k) 1 (c3 - k)) rfl (by kernel_rfl) (by kernel_rfl) (by kernel_rfl) (by kernel_rfl) (by kernel_rfl) (fun _ _ _ h => h) (Or.inl ⟨by kernel_rfl, ?_⟩) trivial ?_
              · intro W hSW
                go_simp
              simp only [Act.put, List.setIfInBounds_toArray, List.set_cons_zero, List.set_cons_succ]
              refine Last.one (i := 39) rfl (by kernel_rfl) ?_
              intro K' hK0
              have hK := hid_of hK0
              clear hK0
              go_simp
              refine (HS2.out w8 (HB24.out _ B8.out)).mono ?_
              rintro e w9 ⟨a9, c9, rfl, F9⟩
              have B9 : Hid (Below w4.heap.size w4 w9) := hid_of (B8.out.trans (F9.out.2.2.mono B8.out.size))
              refine hK.out _ _ (fun _ => trivial) ?_
              clear hK K'
              try simp only [Act.put, List.setIfInBounds_toArray, List.set_cons_zero, List.set_cons_succ]
              refine Last.one (i := 45) rfl (by kernel_rfl) ?_
              intro K' hK0
              have hK := hid_of hK0
              clear hK0
              go_simp
              refine (HSm.out w9 a9 c9 B9.out F9.out.2.1).mono ?_
              rintro e w10 ⟨rfl, b10⟩
              have B10 : Hid (Below w4.heap.size w4 w10) := hid_of (B9.out.trans (b10.mono B9.out.size))
              clear b10
              refine hK.out _ _ (fun _ => trivial) ?_
              clear hK K'
              try simp only [Act.put, List.setIfInBounds_toArray, List.set_cons_zero, List.set_cons_succ]
              refine Last.one (i := 46) rfl (by kernel_rfl) ?_
              intro K' hK0
              have hK := hid_of hK0
              clear hK0
              go_simp
              refine hK.out _ _ (fun _ => trivial) ?_
              clear hK K'
              try simp only [Act.put, List.setIfInBounds_toArray, List.set_cons_zero, List.set_cons_succ]
              refine Last.one (i := 47) rfl (by kernel_rfl) ?_
              intro K' hK0
              have hK := hid_of hK0
              clear hK0
              go_simp
              refine hK.out _ _ (fun h => absurd rfl h) ?_
              clear hK K'
              try simp only [Act.put, List.setIfInBounds_toArray, List.set_cons_zero, List.set_cons_succ]
              refine Last.fin (by kernel_rfl) ?_ _
              go_wp2_with fail
              go_roundg g'
              case measure => omega
              case rel => exact ⟨k + 1, by omega, by omega, by rw [show ((k + 1 : Nat) : Int) = (k : Int) + 1 from by omega], B10⟩
          · have gi : ¬ (k : Int) < (N : Int) := by omega
            have C := hid_of (B4.out.trans (HI.out.mono B4.out.size))
            have HO := hid_of (of_call _ L wr (FL.out wr HI.out) HL.out HKL.out)
            clear hkN
            go_wp2_with fail
            refine HO.out.mono ?_
            rintro e w5 ⟨b5, ⟨hA2, _⟩ | ⟨_, hU2, _⟩ | ⟨_, _, b', rfl, rk5⟩⟩
            · exact absurd HSelf.out.1 hA2
            · exact absurd HU.out hU2
            rw [HSelf.out.2] at rk5
            have C5 := hid_of (C.out.trans (b5.mono C.out.size))
            have R5 := hid_of rk5
            have HLb : Hid (∀ W, Below w5.heap.size w5 W → Calls Tryz.prog 13 #[.pointer (some ⟨b', 0, none⟩)] W fun e w' => ∃ a c, e = .returned (.slice a N c) ∧ Hid (Below w5.heap.size w5 w' ∧ FS w' (.slice a N c) L ∧ Below W.heap.size W w')) := hid_of fun W hW => (list_call (R5.out.below hW) HL.out).mono fun e w' h => run_fs HLN.out h hW
            have qn := neqP b'
            clear rk5 b5 HO
            unfold ptr
            go_wp2_with fail
            refine (HLb.out w5 (Below.refl _ _)).mono ?_
            rintro e w6 ⟨a6, c6, rfl, F6⟩
            have C6 := hid_of (C5.out.trans (F6.out.2.2.mono C5.out.size))
            go_wp2_with fail
            refine (HLi.out w6 C6.out).mono ?_
            rintro e w7 ⟨a7, c7, rfl, F7⟩
            have H9 := hid_of (same_call _ _ L L w7 (F6.out.2.1.below F7.out.2.2) F7.out.2.1 HL.out HL.out)
            rw [decide_eq_true rfl] at H9
            go_wp2_with fail
            refine H9.out.mono ?_
            rintro e w8 hw8
            obtain ⟨rfl, b8⟩ := hw8
            have C8 := hid_of (F7.out.1.trans (b8.mono F7.out.1.size))
            have D8 := hid_of (Base.bel B2.out C8.out (Nat.le_refl _))
            have H12 := hid_of (sure_call _ (HH.out.later D8.out))
            clear b8 H9
            go_wp2_with fail
            refine H12.out.mono ?_
            rintro e w12 hw12
            obtain ⟨rfl, b12⟩ := hw12
            have C12 := hid_of (Base.bel D8.out b12 (Nat.le_refl _))
            clear b12
            go_wp2_with fail
            go_ret
            exact ⟨rfl, C12.out⟩
end Go.Proofs.YtighoelipihifaaGreatDoor.Places
