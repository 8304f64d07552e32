/- The document's own double part. -/
import Derived.Test.YtfkilbhhpipjbaaGreatDoorStepHex
import Derived.Test.YtfkilbhhpipjbaaGreatDoorSure
namespace Go.Proofs.YtfkilbhhpipjbaaGreatDoor.RefDouble
open Go.RowKit
open Go.Proofs.YtfkilbhhpipjbaaGreatDoor.TextMath
open Go.Proofs.YtfkilbhhpipjbaaGreatDoor.ReqMath
open Go.Proofs.YtfkilbhhpipjbaaGreatDoor.Base
open Go.Proofs.YtfkilbhhpipjbaaGreatDoor.Small
open Go.Proofs.YtfkilbhhpipjbaaGreatDoor.Append
open Go.Proofs.YtfkilbhhpipjbaaGreatDoor.Bulk2
open Go.Proofs.YtfkilbhhpipjbaaGreatDoor.Quoted
open Go.Proofs.YtfkilbhhpipjbaaGreatDoor.RefWrite
open Go.Proofs.YtfkilbhhpipjbaaGreatDoor.SplitC
open Go.Proofs.YtfkilbhhpipjbaaGreatDoor.RefPart
open Go.Proofs.YtfkilbhhpipjbaaGreatDoor.RefHex
open Go.Proofs.YtfkilbhhpipjbaaGreatDoor.StepHex
set_option linter.unusedVariables false
set_option maxHeartbeats 16000000 in
set_option maxRecDepth 100000 in
theorem double_call (s : ByteArray) (i0 : Nat) (hi0 : i0 ≤ s.size) (hz : s.size ≤ 67108864) (w : World) (h8 : 8 ≤ w.heap.size) :
    Calls Tryz.prog 34 #[.string s, .int .i64 (i0 : Int)] w fun e w' => ∀ r, Rel 34 meantD s i0 [] r → REnd w e w' r := by
  go_enter Tryz.func34, Tryz.ntmps34
  go_wp2_with fail
  go_loopg [1, 6, 4, 5] s.size (fun g s1 s6 _ _ wx => ∃ (k : Nat) (x : List UInt8), i0 ≤ k ∧ k ≤ s.size ∧ s.size ≤ k + g ∧ s1 = .int .i64 k ∧ Hid (OW w x s6 wx ∧ x.length ≤ k ∧ (∀ r, Rel 34 meantD s i0 [] r → Rel 34 meantD s k x r)))
  case atStart => exact ⟨i0, [], by omega, hi0, by omega, rfl, ⟨⟨nil_row _, Below.refl _ _, fun g h => (by cases h)⟩, Nat.zero_le _, fun r h => h⟩⟩
  case round =>
    obtain ⟨k, x, hk1, hk, hg, rfl, HR⟩ := hrel
    by_cases hlt : k < s.size
    · obtain ⟨g', rfl⟩ : ∃ g', gk = g' + 1 := ⟨gk - 1, by omega⟩
      obtain ⟨c, hc⟩ : ∃ c, (bs s)[k]? = some c := ⟨_, get_bs s k hlt⟩
      have hix := index_at s k c hc (k : Int) rfl
      have hdr : (bs s).drop k = c :: (bs s).drop (k + 1) := by
        obtain ⟨h2, h3⟩ := List.getElem?_eq_some_iff.1 hc
        rw [List.drop_eq_getElem_cons h2, h3]
      have ew : IntKind.i64.wrap ((k : Int) + 1) = (k : Int) + 1 := IntWalk.i64_in _ (by omega)
      have ew2 : IntKind.i64.wrap ((k : Int) + 2) = (k : Int) + 2 := IntWalk.i64_in _ (by omega)
      have ew3 : IntKind.i64.wrap ((k : Int) + 3) = (k : Int) + 3 := IntWalk.i64_in _ (by omega)
      have ew4 : IntKind.i64.wrap ((k : Int) + 4) = (k : Int) + 4 := IntWalk.i64_in _ (by omega)
      have HXL : Hid (x.length + 1 ≤ 1000000000) := by show _ ≤ _; have := HR.out.2.1; omega
      have HD := hid_of hdr
      by_cases hcq : c = 34
      · subst hcq
        clear hdr hc
        go_wp2_with fail
        go_ret2
        intro r hr
        have hq := HR.out.2.2 r hr
        unfold Rel at hq
        rw [HD.out, part_here] at hq
        subst hq
        refine ⟨u6, ?_, ?_⟩
        · show _ = ret2 u6 ((1 + k : Nat) : Int)
          rw [show ((1 + k : Nat) : Int) = (k : Int) + 1 from by omega]
          rfl
        · rw [List.append_nil]; exact HR.out.1
      · have HCQ := hid_of hcq
        have e34 : ((c.toNat : Int) == 34) = false := ne_int (d := 34) hcq
        by_cases h92 : c = 92
        · subst h92
          by_cases hl2 : k + 1 < s.size
          · obtain ⟨d, hd⟩ : ∃ d, (bs s)[k + 1]? = some d := ⟨_, get_bs s (k + 1) hl2⟩
            have hix1 := index_at s (k + 1) d hd ((k : Int) + 1) (by omega)
            have hdr1 : (bs s).drop (k + 1) = d :: (bs s).drop (k + 2) := by
              obtain ⟨h2, h3⟩ := List.getElem?_eq_some_iff.1 hd
              rw [List.drop_eq_getElem_cons h2, h3]
            have gl : (k : Int) + 1 < (s.size : Int) := by omega
            by_cases hl4 : k + 3 < s.size
            · have g3 : (k : Int) + 3 < (s.size : Int) := by omega
              by_cases h120 : d = 120
              · subst h120
                obtain ⟨y, hy⟩ : ∃ d, (bs s)[k + 2]? = some d := ⟨_, get_bs s (k + 2) (by omega)⟩
                obtain ⟨z, hz'⟩ : ∃ d, (bs s)[k + 3]? = some d := ⟨_, get_bs s (k + 3) hl4⟩
                have hix2 := index_at s (k + 2) y hy ((k : Int) + 2) (by omega)
                have hix3 := index_at s (k + 3) z hz' ((k : Int) + 3) (by omega)
                have hdr2 : (bs s).drop (k + 2) = y :: z :: (bs s).drop (k + 4) := by
                  obtain ⟨h2, h3⟩ := List.getElem?_eq_some_iff.1 hy
                  obtain ⟨h4, h5⟩ := List.getElem?_eq_some_iff.1 hz'
                  rw [List.drop_eq_getElem_cons h2, h3, List.drop_eq_getElem_cons h4, h5]
                have hmd : meantD (92 :: (bs s).drop (k + 1)) = match hex2 (y :: z :: (bs s).drop (k + 4)) with | some v => (v, 4) | none => (120, 2) := by
                  rw [hdr1, hdr2]; rfl
                have hx2 : hex2 (y :: z :: (bs s).drop (k + 4)) = match hexV y, hexV z with | some x, some y => some (UInt8.ofNat (16 * x + y)) | _, _ => none := rfl
                clear hdr2 hdr1 hy hz' hd
                cases hyv : hexV y with
                | none =>
                  have HM : Hid (meantD (92 :: (bs s).drop (k + 1)) = (120, 2)) := by show _ = _; rw [hmd, hx2, hyv]
                  have HY := hid_of (fun w => hex_none hyv w)
                  clear hmd hx2 hyv
                  have HV : Hid ((((120 : UInt8)).toNat : Int) = 120) := rfl
                  have HO : Hid ((wr.alloc (.cells #[.int .u8 120] 5)).ownsRow 8 5 1 u6 x.length (Lib.byteCells x)) := ow_alloc HR.out.1 _
                  have HZ : Hid (8 ≤ (wr.alloc (.cells #[.int .u8 120] 5)).heap.size) := Nat.le_trans h8 (Nat.le_trans HR.out.1.2.1.size (by simp))
                  have HU : Hid ((wr.alloc (.cells #[.int .u8 120] 5)).cell? ⟨wr.heap.size, 0, none⟩ = some (.int .u8 120)) := World.cell?_alloc_new wr #[.int .u8 120] 5 0
                  clear hc hdr
                  go_wp2_with fail
                  refine (HY.out _).mono ?_
                  rintro e wq ⟨rfl, hw⟩; replace hw := hw.symm
                  subst hw
                  go_wp2_with (at_builtin; refine wpl_one el61 rfl _ _ rfl u6 x.length (Lib.byteCells x) (wr.alloc (.cells #[.int .u8 120] 5)) ⟨wr.heap.size, 0, none⟩ 1 (.int .u8 120) HO.out HZ.out rfl rfl HU.out rfl HXL.out ?_)
                  intro v' w2 hap
                  have HAP : Hid (Apd 5 u6 x.length 1 (Lib.byteCells x ++ [.int .u8 (((120 : UInt8)).toNat : Int)]) v' (wr.alloc (.cells #[.int .u8 120] 5)) w2) := by first | exact hap | (rw [HV.out]; exact hap)
                  clear hap
                  go_wp2_with fail
                  go_roundg (g' + 1 - 2)
                  case measure => omega
                  case rel => exact ⟨k + 2, x ++ [(120 : UInt8)], by omega, by omega, by omega, by rw [show ((k + 2 : Nat) : Int) = (k : Int) + 2 from by omega], ⟨ow_one HR.out.1 HAP.out, by have := HR.out.2.1; rw [List.length_append, List.length_singleton]; omega, fun r hr => rel_step HD.out HCQ.out HM.out (by decide) (HR.out.2.2 r hr)⟩⟩
                | some av =>
                  have ha15 := hex_le hyv
                  have HY := hid_of (fun w => hex_some hyv w)
                  cases hzv : hexV z with
                  | none =>
                    have HM : Hid (meantD (92 :: (bs s).drop (k + 1)) = (120, 2)) := by show _ = _; rw [hmd, hx2, hyv, hzv]
                    have HZV := hid_of (fun w => hex_none hzv w)
                    clear hmd hx2 hyv hzv
                    have HV : Hid ((((120 : UInt8)).toNat : Int) = 120) := rfl
                    have HO : Hid ((wr.alloc (.cells #[.int .u8 120] 5)).ownsRow 8 5 1 u6 x.length (Lib.byteCells x)) := ow_alloc HR.out.1 _
                    have HZ : Hid (8 ≤ (wr.alloc (.cells #[.int .u8 120] 5)).heap.size) := Nat.le_trans h8 (Nat.le_trans HR.out.1.2.1.size (by simp))
                    have HU : Hid ((wr.alloc (.cells #[.int .u8 120] 5)).cell? ⟨wr.heap.size, 0, none⟩ = some (.int .u8 120)) := World.cell?_alloc_new wr #[.int .u8 120] 5 0
                    clear hc hdr
                    go_wp2_with fail
                    refine (HY.out _).mono ?_
                    rintro e wq ⟨rfl, hw⟩; replace hw := hw.symm
                    subst hw
                    go_wp2_with fail
                    refine (HZV.out _).mono ?_
                    rintro e wq ⟨rfl, hw⟩; replace hw := hw.symm
                    subst hw
                    go_wp2_with (at_builtin; refine wpl_one el61 rfl _ _ rfl u6 x.length (Lib.byteCells x) (wr.alloc (.cells #[.int .u8 120] 5)) ⟨wr.heap.size, 0, none⟩ 1 (.int .u8 120) HO.out HZ.out rfl rfl HU.out rfl HXL.out ?_)
                    intro v' w2 hap
                    have HAP : Hid (Apd 5 u6 x.length 1 (Lib.byteCells x ++ [.int .u8 (((120 : UInt8)).toNat : Int)]) v' (wr.alloc (.cells #[.int .u8 120] 5)) w2) := by first | exact hap | (rw [HV.out]; exact hap)
                    clear hap
                    go_wp2_with fail
                    go_roundg (g' + 1 - 2)
                    case measure => omega
                    case rel => exact ⟨k + 2, x ++ [(120 : UInt8)], by omega, by omega, by omega, by rw [show ((k + 2 : Nat) : Int) = (k : Int) + 2 from by omega], ⟨ow_one HR.out.1 HAP.out, by have := HR.out.2.1; rw [List.length_append, List.length_singleton]; omega, fun r hr => rel_step HD.out HCQ.out HM.out (by decide) (HR.out.2.2 r hr)⟩⟩
                  | some bv =>
                    have hb15 := hex_le hzv
                    have HM : Hid (meantD (92 :: (bs s).drop (k + 1)) = (UInt8.ofNat (16 * av + bv), 4)) := by show _ = _; rw [hmd, hx2, hyv, hzv]
                    have HZV := hid_of (fun w => hex_some hzv w)
                    clear hmd hx2 hyv hzv
                    have HV : Hid (((UInt8.ofNat (16 * av + bv)).toNat : Int) = (IntKind.u8.wrap (IntKind.i64.wrap (IntKind.i64.wrap (16 * (av : Int)) + (bv : Int))))) := by
                      show _ = _
                      have e1 : IntKind.i64.wrap (16 * (av : Int)) = 16 * (av : Int) := IntWalk.i64_in _ (by omega)
                      have e2 : IntKind.i64.wrap (16 * (av : Int) + (bv : Int)) = 16 * (av : Int) + (bv : Int) := IntWalk.i64_in _ (by omega)
                      have e3 : IntKind.u8.wrap (16 * (av : Int) + (bv : Int)) = 16 * (av : Int) + (bv : Int) := IntWalk.u8_in _ (by omega)
                      rw [e1, e2, e3, UInt8.toNat_ofNat']
                      omega
                    clear hc hdr
                    go_wp2_with fail
                    refine (HY.out _).mono ?_
                    rintro e wq ⟨rfl, hw⟩; replace hw := hw.symm
                    subst hw
                    go_wp2_with fail
                    refine (HZV.out _).mono ?_
                    rintro e wq ⟨rfl, hw⟩; replace hw := hw.symm
                    subst hw
                    go_wp2_with fail
                    have hel : ∀ W1 : World, Below (wr.alloc (.cells #[.int .u8 (IntKind.u8.wrap (IntKind.i64.wrap (IntKind.i64.wrap (16 * (av : Int)) + (bv : Int))))] 5)).heap.size (wr.alloc (.cells #[.int .u8 (IntKind.u8.wrap (IntKind.i64.wrap (IntKind.i64.wrap (16 * (av : Int)) + (bv : Int))))] 5)) W1 → W1.ownsRow 8 5 1 u6 x.length (Lib.byteCells x) ∧ 8 ≤ W1.heap.size ∧ W1.cell? ⟨wr.heap.size, 0, none⟩ = some (.int .u8 (IntKind.u8.wrap (IntKind.i64.wrap (IntKind.i64.wrap (16 * (av : Int)) + (bv : Int))))) ∧ (∀ v' w2, Apd 5 u6 x.length 1 (Lib.byteCells x ++ [.int .u8 (IntKind.u8.wrap (IntKind.i64.wrap (IntKind.i64.wrap (16 * (av : Int)) + (bv : Int))))]) v' W1 w2 → OW w (x ++ [UInt8.ofNat (16 * av + bv)]) v' w2) := by
                      intro W1 hb
                      have hb1 : Below wr.heap.size wr W1 := (Sure.alloc_b wr _).trans (hb.mono (by simp))
                      have ho := ow_below HR.out.1 hb1
                      refine ⟨ho.1, Nat.le_trans h8 ho.2.1.size, ?_, fun v' w2 hap => ?_⟩
                      · exact Lists.cell_below hb _ _ (World.cell?_alloc_new wr #[.int .u8 (IntKind.u8.wrap (IntKind.i64.wrap (IntKind.i64.wrap (16 * (av : Int)) + (bv : Int))))] 5 0)
                      · rw [← HV.out] at hap
                        obtain ⟨q1, q2, q3, -⟩ := hap
                        refine ⟨?_, ?_, fun g hg => (q3 g hg).elim (ho.2.2 g) (fun e => Nat.le_trans ho.2.1.size e)⟩
                        · rw [← cells_snoc, List.length_append]; exact q1
                        · exact ((Fr.of_below (F := fun q => w.heap.size ≤ q) ho.2.1).trans (fr_grown q2 (fun g hg => ho.2.2 g hg))).below (fun x hx => hx)
                    have HEL := hid_of hel
                    clear hel
                    go_region_law (first
                      | (refine step_hex rfl (.tmp 67) rfl y av _ (HY.out _) (by first | (simp [Act.eval]; done) | simp [Act.eval, Act.put]) ?_)
                      | (refine step_hex rfl (.tmp 73) rfl z bv _ (HZV.out _) (by first | (simp [Act.eval]; done) | simp [Act.eval, Act.put]) ?_)
                      | (refine step_one el61 rfl (.tmp 63) (.tmp 77) rfl u6 x.length (Lib.byteCells x) _ ⟨wr.heap.size, 0, none⟩ 1 (.int .u8 (IntKind.u8.wrap (IntKind.i64.wrap (IntKind.i64.wrap (16 * (av : Int)) + (bv : Int))))) (HEL.out _ ⟨rfl, rfl, rfl, Nat.le_refl _, fun _ _ => rfl⟩).1 (HEL.out _ ⟨rfl, rfl, rfl, Nat.le_refl _, fun _ _ => rfl⟩).2.1 (by first | (simp [Act.eval]; done) | simp [Act.eval, Act.put]) (by first | (simp [Act.eval]; done) | simp [Act.eval, Act.put]) (HEL.out _ ⟨rfl, rfl, rfl, Nat.le_refl _, fun _ _ => rfl⟩).2.2.1 rfl HXL.out ?_; intro v' w2 hap; have HAP := hid_of ((HEL.out _ (by exact ⟨rfl, rfl, rfl, Nat.le_refl _, fun _ _ => rfl⟩)).2.2.2 v' w2 hap); clear hap))
                    all_goals
                      go_wp2_with fail
                      go_roundg (g' + 1 - 4)
                      case measure => omega
                      case rel => exact ⟨k + 4, x ++ [UInt8.ofNat (16 * av + bv)], by omega, by omega, by omega, by rw [show ((k + 4 : Nat) : Int) = (k : Int) + 4 from by omega], ⟨HAP.out, by have := HR.out.2.1; rw [List.length_append, List.length_singleton]; omega, fun r hr => rel_step HD.out HCQ.out HM.out (by decide) (HR.out.2.2 r hr)⟩⟩
              · have e120 : ((d.toNat : Int) == 120) = false := ne_int (d := 120) h120
                have HMB : Hid (meantD (92 :: (bs s).drop (k + 1)) = (backV d, 2)) := by show _ = _; rw [hdr1, meantD_cons, if_neg (by decide), if_neg h120]
                clear hdr1 hd h120
                by_cases hd110 : d = 110
                · subst hd110
                  have HM : Hid (meantD (92 :: (bs s).drop (k + 1)) = (10, 2)) := HMB.out
                  clear HMB
                  have HV : Hid ((((10 : UInt8)).toNat : Int) = 10) := rfl
                  have HO : Hid ((wr.alloc (.cells #[.int .u8 10] 5)).ownsRow 8 5 1 u6 x.length (Lib.byteCells x)) := ow_alloc HR.out.1 _
                  have HZ : Hid (8 ≤ (wr.alloc (.cells #[.int .u8 10] 5)).heap.size) := Nat.le_trans h8 (Nat.le_trans HR.out.1.2.1.size (by simp))
                  have HU : Hid ((wr.alloc (.cells #[.int .u8 10] 5)).cell? ⟨wr.heap.size, 0, none⟩ = some (.int .u8 10)) := World.cell?_alloc_new wr #[.int .u8 10] 5 0
                  clear hc hdr
                  go_wp2_with (at_builtin; refine wpl_one el61 rfl _ _ rfl u6 x.length (Lib.byteCells x) (wr.alloc (.cells #[.int .u8 10] 5)) ⟨wr.heap.size, 0, none⟩ 1 (.int .u8 10) HO.out HZ.out rfl rfl HU.out rfl HXL.out ?_)
                  intro v' w2 hap
                  have HAP : Hid (Apd 5 u6 x.length 1 (Lib.byteCells x ++ [.int .u8 (((10 : UInt8)).toNat : Int)]) v' (wr.alloc (.cells #[.int .u8 10] 5)) w2) := by first | exact hap | (rw [HV.out]; exact hap)
                  clear hap
                  go_wp2_with fail
                  go_roundg (g' + 1 - 2)
                  case measure => omega
                  case rel => exact ⟨k + 2, x ++ [(10 : UInt8)], by omega, by omega, by omega, by rw [show ((k + 2 : Nat) : Int) = (k : Int) + 2 from by omega], ⟨ow_one HR.out.1 HAP.out, by have := HR.out.2.1; rw [List.length_append, List.length_singleton]; omega, fun r hr => rel_step HD.out HCQ.out HM.out (by decide) (HR.out.2.2 r hr)⟩⟩
                by_cases hd114 : d = 114
                · subst hd114
                  have HM : Hid (meantD (92 :: (bs s).drop (k + 1)) = (13, 2)) := HMB.out
                  clear HMB
                  have HV : Hid ((((13 : UInt8)).toNat : Int) = 13) := rfl
                  have HO : Hid ((wr.alloc (.cells #[.int .u8 13] 5)).ownsRow 8 5 1 u6 x.length (Lib.byteCells x)) := ow_alloc HR.out.1 _
                  have HZ : Hid (8 ≤ (wr.alloc (.cells #[.int .u8 13] 5)).heap.size) := Nat.le_trans h8 (Nat.le_trans HR.out.1.2.1.size (by simp))
                  have HU : Hid ((wr.alloc (.cells #[.int .u8 13] 5)).cell? ⟨wr.heap.size, 0, none⟩ = some (.int .u8 13)) := World.cell?_alloc_new wr #[.int .u8 13] 5 0
                  clear hc hdr
                  go_wp2_with (at_builtin; refine wpl_one el61 rfl _ _ rfl u6 x.length (Lib.byteCells x) (wr.alloc (.cells #[.int .u8 13] 5)) ⟨wr.heap.size, 0, none⟩ 1 (.int .u8 13) HO.out HZ.out rfl rfl HU.out rfl HXL.out ?_)
                  intro v' w2 hap
                  have HAP : Hid (Apd 5 u6 x.length 1 (Lib.byteCells x ++ [.int .u8 (((13 : UInt8)).toNat : Int)]) v' (wr.alloc (.cells #[.int .u8 13] 5)) w2) := by first | exact hap | (rw [HV.out]; exact hap)
                  clear hap
                  go_wp2_with fail
                  go_roundg (g' + 1 - 2)
                  case measure => omega
                  case rel => exact ⟨k + 2, x ++ [(13 : UInt8)], by omega, by omega, by omega, by rw [show ((k + 2 : Nat) : Int) = (k : Int) + 2 from by omega], ⟨ow_one HR.out.1 HAP.out, by have := HR.out.2.1; rw [List.length_append, List.length_singleton]; omega, fun r hr => rel_step HD.out HCQ.out HM.out (by decide) (HR.out.2.2 r hr)⟩⟩
                by_cases hd116 : d = 116
                · subst hd116
                  have HM : Hid (meantD (92 :: (bs s).drop (k + 1)) = (9, 2)) := HMB.out
                  clear HMB
                  have HV : Hid ((((9 : UInt8)).toNat : Int) = 9) := rfl
                  have HO : Hid ((wr.alloc (.cells #[.int .u8 9] 5)).ownsRow 8 5 1 u6 x.length (Lib.byteCells x)) := ow_alloc HR.out.1 _
                  have HZ : Hid (8 ≤ (wr.alloc (.cells #[.int .u8 9] 5)).heap.size) := Nat.le_trans h8 (Nat.le_trans HR.out.1.2.1.size (by simp))
                  have HU : Hid ((wr.alloc (.cells #[.int .u8 9] 5)).cell? ⟨wr.heap.size, 0, none⟩ = some (.int .u8 9)) := World.cell?_alloc_new wr #[.int .u8 9] 5 0
                  clear hc hdr
                  go_wp2_with (at_builtin; refine wpl_one el61 rfl _ _ rfl u6 x.length (Lib.byteCells x) (wr.alloc (.cells #[.int .u8 9] 5)) ⟨wr.heap.size, 0, none⟩ 1 (.int .u8 9) HO.out HZ.out rfl rfl HU.out rfl HXL.out ?_)
                  intro v' w2 hap
                  have HAP : Hid (Apd 5 u6 x.length 1 (Lib.byteCells x ++ [.int .u8 (((9 : UInt8)).toNat : Int)]) v' (wr.alloc (.cells #[.int .u8 9] 5)) w2) := by first | exact hap | (rw [HV.out]; exact hap)
                  clear hap
                  go_wp2_with fail
                  go_roundg (g' + 1 - 2)
                  case measure => omega
                  case rel => exact ⟨k + 2, x ++ [(9 : UInt8)], by omega, by omega, by omega, by rw [show ((k + 2 : Nat) : Int) = (k : Int) + 2 from by omega], ⟨ow_one HR.out.1 HAP.out, by have := HR.out.2.1; rw [List.length_append, List.length_singleton]; omega, fun r hr => rel_step HD.out HCQ.out HM.out (by decide) (HR.out.2.2 r hr)⟩⟩
                by_cases hd98 : d = 98
                · subst hd98
                  have HM : Hid (meantD (92 :: (bs s).drop (k + 1)) = (8, 2)) := HMB.out
                  clear HMB
                  have HV : Hid ((((8 : UInt8)).toNat : Int) = 8) := rfl
                  have HO : Hid ((wr.alloc (.cells #[.int .u8 8] 5)).ownsRow 8 5 1 u6 x.length (Lib.byteCells x)) := ow_alloc HR.out.1 _
                  have HZ : Hid (8 ≤ (wr.alloc (.cells #[.int .u8 8] 5)).heap.size) := Nat.le_trans h8 (Nat.le_trans HR.out.1.2.1.size (by simp))
                  have HU : Hid ((wr.alloc (.cells #[.int .u8 8] 5)).cell? ⟨wr.heap.size, 0, none⟩ = some (.int .u8 8)) := World.cell?_alloc_new wr #[.int .u8 8] 5 0
                  clear hc hdr
                  go_wp2_with (at_builtin; refine wpl_one el61 rfl _ _ rfl u6 x.length (Lib.byteCells x) (wr.alloc (.cells #[.int .u8 8] 5)) ⟨wr.heap.size, 0, none⟩ 1 (.int .u8 8) HO.out HZ.out rfl rfl HU.out rfl HXL.out ?_)
                  intro v' w2 hap
                  have HAP : Hid (Apd 5 u6 x.length 1 (Lib.byteCells x ++ [.int .u8 (((8 : UInt8)).toNat : Int)]) v' (wr.alloc (.cells #[.int .u8 8] 5)) w2) := by first | exact hap | (rw [HV.out]; exact hap)
                  clear hap
                  go_wp2_with fail
                  go_roundg (g' + 1 - 2)
                  case measure => omega
                  case rel => exact ⟨k + 2, x ++ [(8 : UInt8)], by omega, by omega, by omega, by rw [show ((k + 2 : Nat) : Int) = (k : Int) + 2 from by omega], ⟨ow_one HR.out.1 HAP.out, by have := HR.out.2.1; rw [List.length_append, List.length_singleton]; omega, fun r hr => rel_step HD.out HCQ.out HM.out (by decide) (HR.out.2.2 r hr)⟩⟩
                by_cases hd97 : d = 97
                · subst hd97
                  have HM : Hid (meantD (92 :: (bs s).drop (k + 1)) = (7, 2)) := HMB.out
                  clear HMB
                  have HV : Hid ((((7 : UInt8)).toNat : Int) = 7) := rfl
                  have HO : Hid ((wr.alloc (.cells #[.int .u8 7] 5)).ownsRow 8 5 1 u6 x.length (Lib.byteCells x)) := ow_alloc HR.out.1 _
                  have HZ : Hid (8 ≤ (wr.alloc (.cells #[.int .u8 7] 5)).heap.size) := Nat.le_trans h8 (Nat.le_trans HR.out.1.2.1.size (by simp))
                  have HU : Hid ((wr.alloc (.cells #[.int .u8 7] 5)).cell? ⟨wr.heap.size, 0, none⟩ = some (.int .u8 7)) := World.cell?_alloc_new wr #[.int .u8 7] 5 0
                  clear hc hdr
                  go_wp2_with (at_builtin; refine wpl_one el61 rfl _ _ rfl u6 x.length (Lib.byteCells x) (wr.alloc (.cells #[.int .u8 7] 5)) ⟨wr.heap.size, 0, none⟩ 1 (.int .u8 7) HO.out HZ.out rfl rfl HU.out rfl HXL.out ?_)
                  intro v' w2 hap
                  have HAP : Hid (Apd 5 u6 x.length 1 (Lib.byteCells x ++ [.int .u8 (((7 : UInt8)).toNat : Int)]) v' (wr.alloc (.cells #[.int .u8 7] 5)) w2) := by first | exact hap | (rw [HV.out]; exact hap)
                  clear hap
                  go_wp2_with fail
                  go_roundg (g' + 1 - 2)
                  case measure => omega
                  case rel => exact ⟨k + 2, x ++ [(7 : UInt8)], by omega, by omega, by omega, by rw [show ((k + 2 : Nat) : Int) = (k : Int) + 2 from by omega], ⟨ow_one HR.out.1 HAP.out, by have := HR.out.2.1; rw [List.length_append, List.length_singleton]; omega, fun r hr => rel_step HD.out HCQ.out HM.out (by decide) (HR.out.2.2 r hr)⟩⟩
                have HM : Hid (meantD (92 :: (bs s).drop (k + 1)) = (d, 2)) := by
                  show _ = _
                  rw [HMB.out]
                  unfold backV
                  rw [if_neg hd110, if_neg hd114, if_neg hd116, if_neg hd98, if_neg hd97]
                have f1 : ((d.toNat : Int) == 110) = false := ne_int (d := 110) hd110
                have f2 : ((d.toNat : Int) == 114) = false := ne_int (d := 114) hd114
                have f3 : ((d.toNat : Int) == 116) = false := ne_int (d := 116) hd116
                have f4 : ((d.toNat : Int) == 98) = false := ne_int (d := 98) hd98
                have f5 : ((d.toNat : Int) == 97) = false := ne_int (d := 97) hd97
                clear HMB hd110 hd114 hd116 hd98 hd97
                have HV : Hid (((d).toNat : Int) = (d.toNat : Int)) := rfl
                have HO : Hid ((wr.alloc (.cells #[.int .u8 (d.toNat : Int)] 5)).ownsRow 8 5 1 u6 x.length (Lib.byteCells x)) := ow_alloc HR.out.1 _
                have HZ : Hid (8 ≤ (wr.alloc (.cells #[.int .u8 (d.toNat : Int)] 5)).heap.size) := Nat.le_trans h8 (Nat.le_trans HR.out.1.2.1.size (by simp))
                have HU : Hid ((wr.alloc (.cells #[.int .u8 (d.toNat : Int)] 5)).cell? ⟨wr.heap.size, 0, none⟩ = some (.int .u8 (d.toNat : Int))) := World.cell?_alloc_new wr #[.int .u8 (d.toNat : Int)] 5 0
                clear hc hdr
                go_wp2_with (at_builtin; refine wpl_one el61 rfl _ _ rfl u6 x.length (Lib.byteCells x) (wr.alloc (.cells #[.int .u8 (d.toNat : Int)] 5)) ⟨wr.heap.size, 0, none⟩ 1 (.int .u8 (d.toNat : Int)) HO.out HZ.out rfl rfl HU.out rfl HXL.out ?_)
                intro v' w2 hap
                have HAP : Hid (Apd 5 u6 x.length 1 (Lib.byteCells x ++ [.int .u8 ((d).toNat : Int)]) v' (wr.alloc (.cells #[.int .u8 (d.toNat : Int)] 5)) w2) := by first | exact hap | (rw [HV.out]; exact hap)
                clear hap
                go_wp2_with fail
                go_roundg (g' + 1 - 2)
                case measure => omega
                case rel => exact ⟨k + 2, x ++ [d], by omega, by omega, by omega, by rw [show ((k + 2 : Nat) : Int) = (k : Int) + 2 from by omega], ⟨ow_one HR.out.1 HAP.out, by have := HR.out.2.1; rw [List.length_append, List.length_singleton]; omega, fun r hr => rel_step HD.out HCQ.out HM.out (by decide) (HR.out.2.2 r hr)⟩⟩
            · have g3 : ¬ (k : Int) + 3 < (s.size : Int) := by omega
              have HMB : Hid (meantD (92 :: (bs s).drop (k + 1)) = (backV d, 2)) := by
                show _ = _
                rw [hdr1, meantD_cons, if_neg (by decide)]
                have hsh : ((bs s).drop (k + 2)).length ≤ 1 := by rw [List.length_drop, len_bs]; omega
                have hn : hex2 ((bs s).drop (k + 2)) = none := by
                  cases hq : (bs s).drop (k + 2) with
                  | nil => rfl
                  | cons p q =>
                    cases q with
                    | nil => rfl
                    | cons p2 q2 => rw [hq] at hsh; simp at hsh
                rw [hn]
                split <;> rfl
              clear hdr1 hd
              by_cases hd110 : d = 110
              · subst hd110
                have HM : Hid (meantD (92 :: (bs s).drop (k + 1)) = (10, 2)) := HMB.out
                clear HMB
                have HV : Hid ((((10 : UInt8)).toNat : Int) = 10) := rfl
                have HO : Hid ((wr.alloc (.cells #[.int .u8 10] 5)).ownsRow 8 5 1 u6 x.length (Lib.byteCells x)) := ow_alloc HR.out.1 _
                have HZ : Hid (8 ≤ (wr.alloc (.cells #[.int .u8 10] 5)).heap.size) := Nat.le_trans h8 (Nat.le_trans HR.out.1.2.1.size (by simp))
                have HU : Hid ((wr.alloc (.cells #[.int .u8 10] 5)).cell? ⟨wr.heap.size, 0, none⟩ = some (.int .u8 10)) := World.cell?_alloc_new wr #[.int .u8 10] 5 0
                clear hc hdr
                go_wp2_with (at_builtin; refine wpl_one el61 rfl _ _ rfl u6 x.length (Lib.byteCells x) (wr.alloc (.cells #[.int .u8 10] 5)) ⟨wr.heap.size, 0, none⟩ 1 (.int .u8 10) HO.out HZ.out rfl rfl HU.out rfl HXL.out ?_)
                intro v' w2 hap
                have HAP : Hid (Apd 5 u6 x.length 1 (Lib.byteCells x ++ [.int .u8 (((10 : UInt8)).toNat : Int)]) v' (wr.alloc (.cells #[.int .u8 10] 5)) w2) := by first | exact hap | (rw [HV.out]; exact hap)
                clear hap
                go_wp2_with fail
                go_roundg (g' + 1 - 2)
                case measure => omega
                case rel => exact ⟨k + 2, x ++ [(10 : UInt8)], by omega, by omega, by omega, by rw [show ((k + 2 : Nat) : Int) = (k : Int) + 2 from by omega], ⟨ow_one HR.out.1 HAP.out, by have := HR.out.2.1; rw [List.length_append, List.length_singleton]; omega, fun r hr => rel_step HD.out HCQ.out HM.out (by decide) (HR.out.2.2 r hr)⟩⟩
              by_cases hd114 : d = 114
              · subst hd114
                have HM : Hid (meantD (92 :: (bs s).drop (k + 1)) = (13, 2)) := HMB.out
                clear HMB
                have HV : Hid ((((13 : UInt8)).toNat : Int) = 13) := rfl
                have HO : Hid ((wr.alloc (.cells #[.int .u8 13] 5)).ownsRow 8 5 1 u6 x.length (Lib.byteCells x)) := ow_alloc HR.out.1 _
                have HZ : Hid (8 ≤ (wr.alloc (.cells #[.int .u8 13] 5)).heap.size) := Nat.le_trans h8 (Nat.le_trans HR.out.1.2.1.size (by simp))
                have HU : Hid ((wr.alloc (.cells #[.int .u8 13] 5)).cell? ⟨wr.heap.size, 0, none⟩ = some (.int .u8 13)) := World.cell?_alloc_new wr #[.int .u8 13] 5 0
                clear hc hdr
                go_wp2_with (at_builtin; refine wpl_one el61 rfl _ _ rfl u6 x.length (Lib.byteCells x) (wr.alloc (.cells #[.int .u8 13] 5)) ⟨wr.heap.size, 0, none⟩ 1 (.int .u8 13) HO.out HZ.out rfl rfl HU.out rfl HXL.out ?_)
                intro v' w2 hap
                have HAP : Hid (Apd 5 u6 x.length 1 (Lib.byteCells x ++ [.int .u8 (((13 : UInt8)).toNat : Int)]) v' (wr.alloc (.cells #[.int .u8 13] 5)) w2) := by first | exact hap | (rw [HV.out]; exact hap)
                clear hap
                go_wp2_with fail
                go_roundg (g' + 1 - 2)
                case measure => omega
                case rel => exact ⟨k + 2, x ++ [(13 : UInt8)], by omega, by omega, by omega, by rw [show ((k + 2 : Nat) : Int) = (k : Int) + 2 from by omega], ⟨ow_one HR.out.1 HAP.out, by have := HR.out.2.1; rw [List.length_append, List.length_singleton]; omega, fun r hr => rel_step HD.out HCQ.out HM.out (by decide) (HR.out.2.2 r hr)⟩⟩
              by_cases hd116 : d = 116
              · subst hd116
                have HM : Hid (meantD (92 :: (bs s).drop (k + 1)) = (9, 2)) := HMB.out
                clear HMB
                have HV : Hid ((((9 : UInt8)).toNat : Int) = 9) := rfl
                have HO : Hid ((wr.alloc (.cells #[.int .u8 9] 5)).ownsRow 8 5 1 u6 x.length (Lib.byteCells x)) := ow_alloc HR.out.1 _
                have HZ : Hid (8 ≤ (wr.alloc (.cells #[.int .u8 9] 5)).heap.size) := Nat.le_trans h8 (Nat.le_trans HR.out.1.2.1.size (by simp))
                have HU : Hid ((wr.alloc (.cells #[.int .u8 9] 5)).cell? ⟨wr.heap.size, 0, none⟩ = some (.int .u8 9)) := World.cell?_alloc_new wr #[.int .u8 9] 5 0
                clear hc hdr
                go_wp2_with (at_builtin; refine wpl_one el61 rfl _ _ rfl u6 x.length (Lib.byteCells x) (wr.alloc (.cells #[.int .u8 9] 5)) ⟨wr.heap.size, 0, none⟩ 1 (.int .u8 9) HO.out HZ.out rfl rfl HU.out rfl HXL.out ?_)
                intro v' w2 hap
                have HAP : Hid (Apd 5 u6 x.length 1 (Lib.byteCells x ++ [.int .u8 (((9 : UInt8)).toNat : Int)]) v' (wr.alloc (.cells #[.int .u8 9] 5)) w2) := by first | exact hap | (rw [HV.out]; exact hap)
                clear hap
                go_wp2_with fail
                go_roundg (g' + 1 - 2)
                case measure => omega
                case rel => exact ⟨k + 2, x ++ [(9 : UInt8)], by omega, by omega, by omega, by rw [show ((k + 2 : Nat) : Int) = (k : Int) + 2 from by omega], ⟨ow_one HR.out.1 HAP.out, by have := HR.out.2.1; rw [List.length_append, List.length_singleton]; omega, fun r hr => rel_step HD.out HCQ.out HM.out (by decide) (HR.out.2.2 r hr)⟩⟩
              by_cases hd98 : d = 98
              · subst hd98
                have HM : Hid (meantD (92 :: (bs s).drop (k + 1)) = (8, 2)) := HMB.out
                clear HMB
                have HV : Hid ((((8 : UInt8)).toNat : Int) = 8) := rfl
                have HO : Hid ((wr.alloc (.cells #[.int .u8 8] 5)).ownsRow 8 5 1 u6 x.length (Lib.byteCells x)) := ow_alloc HR.out.1 _
                have HZ : Hid (8 ≤ (wr.alloc (.cells #[.int .u8 8] 5)).heap.size) := Nat.le_trans h8 (Nat.le_trans HR.out.1.2.1.size (by simp))
                have HU : Hid ((wr.alloc (.cells #[.int .u8 8] 5)).cell? ⟨wr.heap.size, 0, none⟩ = some (.int .u8 8)) := World.cell?_alloc_new wr #[.int .u8 8] 5 0
                clear hc hdr
                go_wp2_with (at_builtin; refine wpl_one el61 rfl _ _ rfl u6 x.length (Lib.byteCells x) (wr.alloc (.cells #[.int .u8 8] 5)) ⟨wr.heap.size, 0, none⟩ 1 (.int .u8 8) HO.out HZ.out rfl rfl HU.out rfl HXL.out ?_)
                intro v' w2 hap
                have HAP : Hid (Apd 5 u6 x.length 1 (Lib.byteCells x ++ [.int .u8 (((8 : UInt8)).toNat : Int)]) v' (wr.alloc (.cells #[.int .u8 8] 5)) w2) := by first | exact hap | (rw [HV.out]; exact hap)
                clear hap
                go_wp2_with fail
                go_roundg (g' + 1 - 2)
                case measure => omega
                case rel => exact ⟨k + 2, x ++ [(8 : UInt8)], by omega, by omega, by omega, by rw [show ((k + 2 : Nat) : Int) = (k : Int) + 2 from by omega], ⟨ow_one HR.out.1 HAP.out, by have := HR.out.2.1; rw [List.length_append, List.length_singleton]; omega, fun r hr => rel_step HD.out HCQ.out HM.out (by decide) (HR.out.2.2 r hr)⟩⟩
              by_cases hd97 : d = 97
              · subst hd97
                have HM : Hid (meantD (92 :: (bs s).drop (k + 1)) = (7, 2)) := HMB.out
                clear HMB
                have HV : Hid ((((7 : UInt8)).toNat : Int) = 7) := rfl
                have HO : Hid ((wr.alloc (.cells #[.int .u8 7] 5)).ownsRow 8 5 1 u6 x.length (Lib.byteCells x)) := ow_alloc HR.out.1 _
                have HZ : Hid (8 ≤ (wr.alloc (.cells #[.int .u8 7] 5)).heap.size) := Nat.le_trans h8 (Nat.le_trans HR.out.1.2.1.size (by simp))
                have HU : Hid ((wr.alloc (.cells #[.int .u8 7] 5)).cell? ⟨wr.heap.size, 0, none⟩ = some (.int .u8 7)) := World.cell?_alloc_new wr #[.int .u8 7] 5 0
                clear hc hdr
                go_wp2_with (at_builtin; refine wpl_one el61 rfl _ _ rfl u6 x.length (Lib.byteCells x) (wr.alloc (.cells #[.int .u8 7] 5)) ⟨wr.heap.size, 0, none⟩ 1 (.int .u8 7) HO.out HZ.out rfl rfl HU.out rfl HXL.out ?_)
                intro v' w2 hap
                have HAP : Hid (Apd 5 u6 x.length 1 (Lib.byteCells x ++ [.int .u8 (((7 : UInt8)).toNat : Int)]) v' (wr.alloc (.cells #[.int .u8 7] 5)) w2) := by first | exact hap | (rw [HV.out]; exact hap)
                clear hap
                go_wp2_with fail
                go_roundg (g' + 1 - 2)
                case measure => omega
                case rel => exact ⟨k + 2, x ++ [(7 : UInt8)], by omega, by omega, by omega, by rw [show ((k + 2 : Nat) : Int) = (k : Int) + 2 from by omega], ⟨ow_one HR.out.1 HAP.out, by have := HR.out.2.1; rw [List.length_append, List.length_singleton]; omega, fun r hr => rel_step HD.out HCQ.out HM.out (by decide) (HR.out.2.2 r hr)⟩⟩
              have HM : Hid (meantD (92 :: (bs s).drop (k + 1)) = (d, 2)) := by
                show _ = _
                rw [HMB.out]
                unfold backV
                rw [if_neg hd110, if_neg hd114, if_neg hd116, if_neg hd98, if_neg hd97]
              have f1 : ((d.toNat : Int) == 110) = false := ne_int (d := 110) hd110
              have f2 : ((d.toNat : Int) == 114) = false := ne_int (d := 114) hd114
              have f3 : ((d.toNat : Int) == 116) = false := ne_int (d := 116) hd116
              have f4 : ((d.toNat : Int) == 98) = false := ne_int (d := 98) hd98
              have f5 : ((d.toNat : Int) == 97) = false := ne_int (d := 97) hd97
              clear HMB hd110 hd114 hd116 hd98 hd97
              have HV : Hid (((d).toNat : Int) = (d.toNat : Int)) := rfl
              have HO : Hid ((wr.alloc (.cells #[.int .u8 (d.toNat : Int)] 5)).ownsRow 8 5 1 u6 x.length (Lib.byteCells x)) := ow_alloc HR.out.1 _
              have HZ : Hid (8 ≤ (wr.alloc (.cells #[.int .u8 (d.toNat : Int)] 5)).heap.size) := Nat.le_trans h8 (Nat.le_trans HR.out.1.2.1.size (by simp))
              have HU : Hid ((wr.alloc (.cells #[.int .u8 (d.toNat : Int)] 5)).cell? ⟨wr.heap.size, 0, none⟩ = some (.int .u8 (d.toNat : Int))) := World.cell?_alloc_new wr #[.int .u8 (d.toNat : Int)] 5 0
              clear hc hdr
              go_wp2_with (at_builtin; refine wpl_one el61 rfl _ _ rfl u6 x.length (Lib.byteCells x) (wr.alloc (.cells #[.int .u8 (d.toNat : Int)] 5)) ⟨wr.heap.size, 0, none⟩ 1 (.int .u8 (d.toNat : Int)) HO.out HZ.out rfl rfl HU.out rfl HXL.out ?_)
              intro v' w2 hap
              have HAP : Hid (Apd 5 u6 x.length 1 (Lib.byteCells x ++ [.int .u8 ((d).toNat : Int)]) v' (wr.alloc (.cells #[.int .u8 (d.toNat : Int)] 5)) w2) := by first | exact hap | (rw [HV.out]; exact hap)
              clear hap
              go_wp2_with fail
              go_roundg (g' + 1 - 2)
              case measure => omega
              case rel => exact ⟨k + 2, x ++ [d], by omega, by omega, by omega, by rw [show ((k + 2 : Nat) : Int) = (k : Int) + 2 from by omega], ⟨ow_one HR.out.1 HAP.out, by have := HR.out.2.1; rw [List.length_append, List.length_singleton]; omega, fun r hr => rel_step HD.out HCQ.out HM.out (by decide) (HR.out.2.2 r hr)⟩⟩
          · have gl : ¬ (k : Int) + 1 < (s.size : Int) := by omega
            have g3 : ¬ (k : Int) + 3 < (s.size : Int) := by omega
            have HM : Hid (meantD (92 :: (bs s).drop (k + 1)) = (92, 1)) := by
              show _ = _
              rw [List.drop_of_length_le (by rw [len_bs]; omega)]
              rfl
            have HV : Hid ((((92 : UInt8)).toNat : Int) = 92) := rfl
            have HO : Hid ((wr.alloc (.cells #[.int .u8 92] 5)).ownsRow 8 5 1 u6 x.length (Lib.byteCells x)) := ow_alloc HR.out.1 _
            have HZ : Hid (8 ≤ (wr.alloc (.cells #[.int .u8 92] 5)).heap.size) := Nat.le_trans h8 (Nat.le_trans HR.out.1.2.1.size (by simp))
            have HU : Hid ((wr.alloc (.cells #[.int .u8 92] 5)).cell? ⟨wr.heap.size, 0, none⟩ = some (.int .u8 92)) := World.cell?_alloc_new wr #[.int .u8 92] 5 0
            clear hc hdr
            go_wp2_with (at_builtin; refine wpl_one el61 rfl _ _ rfl u6 x.length (Lib.byteCells x) (wr.alloc (.cells #[.int .u8 92] 5)) ⟨wr.heap.size, 0, none⟩ 1 (.int .u8 92) HO.out HZ.out rfl rfl HU.out rfl HXL.out ?_)
            intro v' w2 hap
            have HAP : Hid (Apd 5 u6 x.length 1 (Lib.byteCells x ++ [.int .u8 (((92 : UInt8)).toNat : Int)]) v' (wr.alloc (.cells #[.int .u8 92] 5)) w2) := by first | exact hap | (rw [HV.out]; exact hap)
            clear hap
            go_wp2_with fail
            go_roundg (g' + 1 - 1)
            case measure => omega
            case rel => exact ⟨k + 1, x ++ [(92 : UInt8)], by omega, by omega, by omega, by rw [show ((k + 1 : Nat) : Int) = (k : Int) + 1 from by omega], ⟨ow_one HR.out.1 HAP.out, by have := HR.out.2.1; rw [List.length_append, List.length_singleton]; omega, fun r hr => rel_step HD.out HCQ.out HM.out (by decide) (HR.out.2.2 r hr)⟩⟩
        · have e92 : ((c.toNat : Int) == 92) = false := ne_int (d := 92) h92
          have HM : Hid (meantD (c :: (bs s).drop (k + 1)) = (c, 1)) := by
            show _ = _
            cases (bs s).drop (k + 1) with
            | nil => rfl
            | cons p q => rw [meantD_cons, if_pos h92]
          clear hcq h92
          have HV : Hid (((c).toNat : Int) = (c.toNat : Int)) := rfl
          have HO : Hid ((wr.alloc (.cells #[.int .u8 (c.toNat : Int)] 5)).ownsRow 8 5 1 u6 x.length (Lib.byteCells x)) := ow_alloc HR.out.1 _
          have HZ : Hid (8 ≤ (wr.alloc (.cells #[.int .u8 (c.toNat : Int)] 5)).heap.size) := Nat.le_trans h8 (Nat.le_trans HR.out.1.2.1.size (by simp))
          have HU : Hid ((wr.alloc (.cells #[.int .u8 (c.toNat : Int)] 5)).cell? ⟨wr.heap.size, 0, none⟩ = some (.int .u8 (c.toNat : Int))) := World.cell?_alloc_new wr #[.int .u8 (c.toNat : Int)] 5 0
          clear hc hdr
          go_wp2_with (at_builtin; refine wpl_one el61 rfl _ _ rfl u6 x.length (Lib.byteCells x) (wr.alloc (.cells #[.int .u8 (c.toNat : Int)] 5)) ⟨wr.heap.size, 0, none⟩ 1 (.int .u8 (c.toNat : Int)) HO.out HZ.out rfl rfl HU.out rfl HXL.out ?_)
          intro v' w2 hap
          have HAP : Hid (Apd 5 u6 x.length 1 (Lib.byteCells x ++ [.int .u8 ((c).toNat : Int)]) v' (wr.alloc (.cells #[.int .u8 (c.toNat : Int)] 5)) w2) := by first | exact hap | (rw [HV.out]; exact hap)
          clear hap
          go_wp2_with fail
          go_roundg (g' + 1 - 1)
          case measure => omega
          case rel => exact ⟨k + 1, x ++ [c], by omega, by omega, by omega, by rw [show ((k + 1 : Nat) : Int) = (k : Int) + 1 from by omega], ⟨ow_one HR.out.1 HAP.out, by have := HR.out.2.1; rw [List.length_append, List.length_singleton]; omega, fun r hr => rel_step HD.out HCQ.out HM.out (by decide) (HR.out.2.2 r hr)⟩⟩
    · have gl : ¬ (k : Int) < (s.size : Int) := by omega
      go_wp2_with fail
      go_ret2
      intro r hr
      have hq := HR.out.2.2 r hr
      unfold Rel at hq
      rw [List.drop_of_length_le (by rw [len_bs]; omega), part_none] at hq
      subst hq
      exact ⟨rfl, HR.out.1.2.1⟩
end Go.Proofs.YtfkilbhhpipjbaaGreatDoor.RefDouble
