/- The document's own Split, walked. -/
import Derived.Test.YtfkilbhhpipjbaaGreatDoorRefSplitM
namespace Go.Proofs.YtfkilbhhpipjbaaGreatDoor.RefSplit
open Go.RowKit
open Go.Proofs.YtfkilbhhpipjbaaGreatDoor.TextMath
open Go.Proofs.YtfkilbhhpipjbaaGreatDoor.ReqMath
open Go.Proofs.YtfkilbhhpipjbaaGreatDoor.Base
open Go.Proofs.YtfkilbhhpipjbaaGreatDoor.Small
open Go.Proofs.YtfkilbhhpipjbaaGreatDoor.Append
open Go.Proofs.YtfkilbhhpipjbaaGreatDoor.Bulk2
open Go.Proofs.YtfkilbhhpipjbaaGreatDoor.Quoted
open Go.Proofs.YtfkilbhhpipjbaaGreatDoor.Word
open Go.Proofs.YtfkilbhhpipjbaaGreatDoor.SplitC
open Go.Proofs.YtfkilbhhpipjbaaGreatDoor.RefWrite
open Go.Proofs.YtfkilbhhpipjbaaGreatDoor.RefPart
open Go.Proofs.YtfkilbhhpipjbaaGreatDoor.RefDouble
open Go.Proofs.YtfkilbhhpipjbaaGreatDoor.RefSplitM
set_option linter.unusedVariables false

theorem pos_D' : ∀ (c : UInt8) (t : List UInt8), 0 < (meantD (c :: t)).2 ∧ (meantD (c :: t)).2 ≤ (c :: t).length := pos_D
theorem pos_S' : ∀ (c : UInt8) (t : List UInt8), 0 < (meantS (c :: t)).2 ∧ (meantS (c :: t)).2 ≤ (c :: t).length := pos_S
set_option maxHeartbeats 16000000 in
set_option maxRecDepth 100000 in
theorem rsplit_call (s : ByteArray) (hz : s.size ≤ 67108864) (w : World) (h8 : 8 ≤ w.heap.size) :
    Calls Tryz.prog 16 #[.string s] w fun e w' => SEnd w e w' (splitS (bs s)) := by
  have HB := hid_of rblank_call
  have hsl : (bs s).length = s.size := len_bs s
  go_enter Tryz.func16, Tryz.ntmps16
  go_wp2_with fail
  go_loopg [4, 5] s.size (fun g so si wx => ∃ (i : Nat) (ws : List (List UInt8)), i ≤ s.size ∧ s.size ≤ i + g ∧ si = .int .i64 i ∧ Hid (SI (bs s) i ws ∧ OS w ws so wx))
  case atStart => exact ⟨0, [], by omega, by omega, rfl, ⟨SI.start _, World.ownsRow_nil _ _ _ _, Below.refl _ _, fun g h => (by cases h)⟩⟩
  case round =>
    obtain ⟨i, ws, hi, hg, rfl, HO⟩ := hrel
    obtain ⟨wo, hwo⟩ : ∃ wo : World, wo = wr := ⟨_, rfl⟩
    subst hwo
    obtain ⟨gO, hgO⟩ : ∃ gO, gO = gk := ⟨_, rfl⟩
    go_wp2_with fail
    go_loopg [5] s.size (fun g si wx => ∃ k : Nat, k ≤ s.size ∧ s.size ≤ k + g ∧ si = .int .i64 k ∧ Hid (BI (bs s) i k) ∧ wx = wo)
    case atStart => exact ⟨i, hi, by omega, rfl, ⟨Nat.le_refl _, by omega, rfl⟩, rfl⟩
    case round =>
      obtain ⟨k, hk, hgk, rfl, HBI, hwx⟩ := hrel
      subst hwx
      by_cases hlt : k < s.size
      · obtain ⟨g', rfl⟩ : ∃ g', gk = g' + 1 := ⟨gk - 1, by omega⟩
        obtain ⟨c, hc⟩ : ∃ c, (bs s)[k]? = some c := ⟨_, get_bs s k hlt⟩
        have hix := index_at s k c hc (k : Int) rfl
        have ew : IntKind.i64.wrap ((k : Int) + 1) = (k : Int) + 1 := IntWalk.i64_in _ (by omega)
        have gi : (k : Int) < (s.size : Int) := by omega
        have HBc := hid_of (HB.out c)
        have HC := hid_of hc
        cases hb : isBlank c with
        | true =>
          rw [hb] at HBc
          have HN := hid_of (HBI.out.step hc hb)
          clear hc hb HBI
          go_wp2_with fail
          refine (HBc.out _).mono ?_
          rintro e w1 ⟨rfl, hw1⟩
          subst hw1
          go_wp2_with fail
          go_roundg g'
          case measure => omega
          case rel => exact ⟨k + 1, by omega, by omega, by rw [show ((k + 1 : Nat) : Int) = (k : Int) + 1 from by omega], HN, rfl⟩
        | false =>
          rw [hb] at HBc
          have HCB := hid_of hb
          have hne : ((k : Int) == (s.size : Int)) = false := by rw [beq_eq_false_iff_ne]; omega
          clear hc hb
          go_wp2_with fail
          refine (HBc.out _).mono ?_
          rintro e w1 ⟨rfl, hw1⟩
          subst hw1
          clear hix ew
          go_wp2_with fail
          have HW0 : Hid (OW w [] (.slice none 0 0) w1) := ⟨nil_row _, HO.out.2.2.1, fun g h => (by cases h)⟩
          go_loopg [5, 6] s.size (fun g si sw wx => ∃ (j : Nat) (x : List UInt8), j ≤ s.size ∧ s.size ≤ j + g ∧ si = .int .i64 j ∧ Hid (WI (bs s) k j x) ∧ Hid (OW w x sw wx ∧ OS w ws u4 wx))
          case atStart => exact ⟨k, [], by omega, by omega, rfl, WI.start (by omega), ⟨HW0.out, HO.out.2⟩⟩
          case round =>
            obtain ⟨j, x, hj, hgj, rfl, HWI, HM⟩ := hrel
            have hik := HBI.out.le
            by_cases hlj : j < s.size
            · obtain ⟨g2, rfl⟩ : ∃ g2, gk = g2 + 1 := ⟨gk - 1, by omega⟩
              obtain ⟨d, hd⟩ : ∃ d, (bs s)[j]? = some d := ⟨_, get_bs s j hlj⟩
              have hix := index_at s j d hd (j : Int) rfl
              have ew : IntKind.i64.wrap ((j : Int) + 1) = (j : Int) + 1 := IntWalk.i64_in _ (by omega)
              have gi : (j : Int) < (s.size : Int) := by omega
              have HBd := hid_of (HB.out d)
              cases hb : isBlank d with
              | true =>
                rw [hb] at HBd
                have HWD := hid_of (HWI.out.done (Or.inr ⟨d, hd, hb⟩))
                have KJ : k < j := by
                  rcases Nat.lt_or_ge k j with q | q
                  · exact q
                  · have hle := HWI.out.le
                    obtain rfl : k = j := by omega
                    have h1 := HC.out
                    rw [hd] at h1
                    injection h1 with h1
                    have h2 := HCB.out
                    rw [← h1, hb] at h2
                    cases h2
                clear hd hb
                have hkj : k < j := KJ
                have HSI := hid_of (HO.out.1.word HBI.out HC.out HCB.out HWD.out hkj (by omega))
                have hcv := ow_conv HM.out.1
                have HO9 : Hid ((wr.alloc (.cells #[.string (mk x)] 9)).ownsRow 8 9 1 u4 ws.length (strC ws)) := (show wr.ownsRow 8 9 1 u4 ws.length (strC ws) from HM.out.2.1).alloc _
                have HZ : Hid (8 ≤ (wr.alloc (.cells #[.string (mk x)] 9)).heap.size) := Nat.le_trans h8 (Nat.le_trans HM.out.1.2.1.size (by simp))
                have HU : Hid ((wr.alloc (.cells #[.string (mk x)] 9)).cell? ⟨wr.heap.size, 0, none⟩ = some (.string (mk x))) := World.cell?_alloc_new wr #[.string (mk x)] 9 0
                have HXL : Hid (ws.length + 1 ≤ 1000000000) := by show _ ≤ _; have := HO.out.1.wl; omega
                go_wp2_with fail
                refine (HBd.out _).mono ?_
                rintro e wq ⟨rfl, hwq⟩
                subst hwq
                go_wp2_with (at_builtin; refine wpl_one el33 rfl _ _ rfl u4 ws.length (strC ws) (wq.alloc (.cells #[.string (mk x)] 9)) ⟨wq.heap.size, 0, none⟩ 1 (.string (mk x)) HO9.out HZ.out rfl rfl HU.out rfl HXL.out ?_)
                intro v' w2 hap
                have HAP := hid_of (os_snoc HM.out.2 hap)
                clear hap
                go_wp2_with fail
                go_roundg (gO - (j - i))
                case measure => omega
                case rel => exact ⟨j, ws ++ [x], hj, by omega, rfl, ⟨HSI.out, HAP.out⟩⟩
              | false =>
                rw [hb] at HBd
                by_cases h34 : d = 34
                · subst h34
                  have HD := hid_of (double_call s (j + 1) (by omega) hz wr (Nat.le_trans h8 HM.out.1.2.1.size))
                  rw [show ((j + 1 : Nat) : Int) = (j : Int) + 1 from by omega] at HD
                  have HDd := hid_of hd
                  have hif : (if (34 : UInt8) = 34 then meantD else meantS) = meantD := if_pos rfl
                  cases hp : partS 34 meantD ((bs s).drop (j + 1)) with
                  | none =>
                    have HR : Hid (Rel 34 meantD s (j + 1) [] none) := by show _ = _; rw [hp]
                    have HE := hid_of (HO.out.1.bad HBI.out HC.out HCB.out (HWI.out.bad hd (Or.inl rfl) (by rw [hif]; exact hp)))
                    clear hp hd hif
                    go_wp2_with fail
                    refine (HBd.out _).mono ?_
                    rintro e wq ⟨rfl, hwq⟩
                    subst hwq
                    go_wp2_with fail
                    refine HD.out.mono ?_
                    intro e w3 hE
                    obtain ⟨rfl, b3⟩ := hE none HR.out
                    have B3 := hid_of b3
                    clear b3 hE
                    go_wp2_with fail
                    go_ret2
                    rw [HE.out]
                    exact ⟨rfl, HM.out.1.2.1.trans (B3.out.mono HM.out.1.2.1.size)⟩
                  | some q0 =>
                    obtain ⟨y, n⟩ := q0
                    obtain ⟨n1, n2, n3⟩ := part_len (m := meantD) pos_D _ _ (Nat.le_refl _) y n hp
                    have hdl : ((bs s).drop (j + 1)).length = s.size - (j + 1) := by rw [List.length_drop, hsl]
                    obtain ⟨P, hPd⟩ : ∃ P : Nat, P = n + (j + 1) := ⟨_, rfl⟩
                    have HR : Hid (Rel 34 meantD s (j + 1) [] (some (y, P))) := by show _ = _; rw [hp, hPd]; rfl
                    have gP0 : ¬ ((P : Int) < 0) := by omega
                    have HPd := hid_of hPd
                    have hPs : P ≤ s.size := by omega
                    have hPj : j < P := by omega
                    have hyl : y.length ≤ P := by omega
                    by_cases hP : P < s.size
                    · obtain ⟨b, hb2⟩ : ∃ b, (bs s)[P]? = some b := ⟨_, get_bs s P hP⟩
                      have hixP := index_at s P b hb2 (P : Int) rfl
                      have giP : (P : Int) < (s.size : Int) := by omega
                      have HBb := hid_of (HB.out b)
                      cases hbb : isBlank b with
                      | true =>
                        rw [hbb] at HBb
                        have HWN : Hid (WI (bs s) k P (x ++ y)) := by rw [hPd]; exact HWI.out.part hd (Or.inl rfl) (by rw [hif]; exact hp) n2 n3 (Or.inr ⟨b, by rw [← hPd]; exact hb2, hbb⟩)
                        clear hp hd hb2 hbb hif hPd n1 n2 n3 hdl
                        go_wp2_with fail
                        refine (HBd.out _).mono ?_
                        rintro e wq ⟨rfl, hwq⟩
                        subst hwq
                        go_wp2_with fail
                        refine HD.out.mono ?_
                        intro e w3 hE
                        obtain ⟨pv, rfl, ow3⟩ := hE _ HR.out
                        clear hE
                        go_wp2_with fail
                        refine (HBb.out _).mono ?_
                        rintro e wq2 ⟨rfl, hwq2⟩
                        subst hwq2
                        have hb3 := ow3.2.1
                        obtain ⟨v', w4, hr, ow4, hg4⟩ := ow_part (ow_below HM.out.1 hb3) ow3.1 (Nat.le_trans h8 (Nat.le_trans HM.out.1.2.1.size hb3.size)) (by have := HWI.out.xl; omega)
                        have HN := hid_of (And.intro ow4 (os_grown (os_below HM.out.2 hb3) (ow_below HM.out.1 hb3).1 hg4 HM.out.1.2.2))
                        clear hb3 ow3 ow4 hg4
                        go_wp2_with (at_builtin; refine wpl_eq rfl _ _ 61 61 rfl u6 pv v' wq2 w4 rfl rfl hr ?_)
                        go_wp2_with fail
                        go_roundg (g2 + 1 - (P - j))
                        case measure => omega
                        case rel => exact ⟨P, x ++ y, by omega, by omega, rfl, HWN, HN⟩
                      | false =>
                        rw [hbb] at HBb
                        have HE := hid_of (HO.out.1.bad HBI.out HC.out HCB.out (HWI.out.bad2 hd (Or.inl rfl) (by rw [hif]; exact hp) (by rw [← hPd]; exact hb2) hbb))
                        clear hp hd hb2 hbb hif hPd n1 n2 n3 hdl
                        go_wp2_with fail
                        refine (HBd.out _).mono ?_
                        rintro e wq ⟨rfl, hwq⟩
                        subst hwq
                        go_wp2_with fail
                        refine HD.out.mono ?_
                        intro e w3 hE
                        obtain ⟨pv, rfl, ow3⟩ := hE _ HR.out
                        have B3 := hid_of ow3.2.1
                        clear hE ow3
                        go_wp2_with fail
                        refine (HBb.out _).mono ?_
                        rintro e wq2 ⟨rfl, hwq2⟩
                        subst hwq2
                        go_wp2_with fail
                        go_ret2
                        rw [HE.out]
                        exact ⟨rfl, HM.out.1.2.1.trans (B3.out.mono HM.out.1.2.1.size)⟩
                    · have giP : ¬ (P : Int) < (s.size : Int) := by omega
                      have HWN : Hid (WI (bs s) k P (x ++ y)) := by rw [hPd]; exact HWI.out.part hd (Or.inl rfl) (by rw [hif]; exact hp) n2 n3 (Or.inl (by rw [hsl, ← hPd]; omega))
                      clear hp hd hif hPd n1 n2 n3 hdl
                      go_wp2_with fail
                      refine (HBd.out _).mono ?_
                      rintro e wq ⟨rfl, hwq⟩
                      subst hwq
                      go_wp2_with fail
                      refine HD.out.mono ?_
                      intro e w3 hE
                      obtain ⟨pv, rfl, ow3⟩ := hE _ HR.out
                      clear hE
                      have hb3 := ow3.2.1
                      obtain ⟨v', w4, hr, ow4, hg4⟩ := ow_part (ow_below HM.out.1 hb3) ow3.1 (Nat.le_trans h8 (Nat.le_trans HM.out.1.2.1.size hb3.size)) (by have := HWI.out.xl; omega)
                      have HN := hid_of (And.intro ow4 (os_grown (os_below HM.out.2 hb3) (ow_below HM.out.1 hb3).1 hg4 HM.out.1.2.2))
                      clear hb3 ow3 ow4 hg4
                      go_wp2_with (at_builtin; refine wpl_eq rfl _ _ 61 61 rfl u6 pv v' w3 w4 rfl rfl hr ?_)
                      go_wp2_with fail
                      go_roundg (g2 + 1 - (P - j))
                      case measure => omega
                      case rel => exact ⟨P, x ++ y, by omega, by omega, rfl, HWN, HN⟩
                · by_cases h39 : d = 39
                  · subst h39
                    have HD := hid_of (single_call s (j + 1) (by omega) hz wr (Nat.le_trans h8 HM.out.1.2.1.size))
                    rw [show ((j + 1 : Nat) : Int) = (j : Int) + 1 from by omega] at HD
                    have HDd := hid_of hd
                    have hif : (if (39 : UInt8) = 34 then meantD else meantS) = meantS := if_neg (by decide)
                    cases hp : partS 39 meantS ((bs s).drop (j + 1)) with
                    | none =>
                      have HR : Hid (Rel 39 meantS s (j + 1) [] none) := by show _ = _; rw [hp]
                      have HE := hid_of (HO.out.1.bad HBI.out HC.out HCB.out (HWI.out.bad hd (Or.inr rfl) (by rw [hif]; exact hp)))
                      clear hp hd hif
                      go_wp2_with fail
                      refine (HBd.out _).mono ?_
                      rintro e wq ⟨rfl, hwq⟩
                      subst hwq
                      go_wp2_with fail
                      refine HD.out.mono ?_
                      intro e w3 hE
                      obtain ⟨rfl, b3⟩ := hE none HR.out
                      have B3 := hid_of b3
                      clear b3 hE
                      go_wp2_with fail
                      go_ret2
                      rw [HE.out]
                      exact ⟨rfl, HM.out.1.2.1.trans (B3.out.mono HM.out.1.2.1.size)⟩
                    | some q0 =>
                      obtain ⟨y, n⟩ := q0
                      obtain ⟨n1, n2, n3⟩ := part_len (m := meantS) pos_S _ _ (Nat.le_refl _) y n hp
                      have hdl : ((bs s).drop (j + 1)).length = s.size - (j + 1) := by rw [List.length_drop, hsl]
                      obtain ⟨P, hPd⟩ : ∃ P : Nat, P = n + (j + 1) := ⟨_, rfl⟩
                      have HR : Hid (Rel 39 meantS s (j + 1) [] (some (y, P))) := by show _ = _; rw [hp, hPd]; rfl
                      have gP0 : ¬ ((P : Int) < 0) := by omega
                      have HPd := hid_of hPd
                      have hPs : P ≤ s.size := by omega
                      have hPj : j < P := by omega
                      have hyl : y.length ≤ P := by omega
                      by_cases hP : P < s.size
                      · obtain ⟨b, hb2⟩ : ∃ b, (bs s)[P]? = some b := ⟨_, get_bs s P hP⟩
                        have hixP := index_at s P b hb2 (P : Int) rfl
                        have giP : (P : Int) < (s.size : Int) := by omega
                        have HBb := hid_of (HB.out b)
                        cases hbb : isBlank b with
                        | true =>
                          rw [hbb] at HBb
                          have HWN : Hid (WI (bs s) k P (x ++ y)) := by rw [hPd]; exact HWI.out.part hd (Or.inr rfl) (by rw [hif]; exact hp) n2 n3 (Or.inr ⟨b, by rw [← hPd]; exact hb2, hbb⟩)
                          clear hp hd hb2 hbb hif hPd n1 n2 n3 hdl
                          go_wp2_with fail
                          refine (HBd.out _).mono ?_
                          rintro e wq ⟨rfl, hwq⟩
                          subst hwq
                          go_wp2_with fail
                          refine HD.out.mono ?_
                          intro e w3 hE
                          obtain ⟨pv, rfl, ow3⟩ := hE _ HR.out
                          clear hE
                          go_wp2_with fail
                          refine (HBb.out _).mono ?_
                          rintro e wq2 ⟨rfl, hwq2⟩
                          subst hwq2
                          have hb3 := ow3.2.1
                          obtain ⟨v', w4, hr, ow4, hg4⟩ := ow_part (ow_below HM.out.1 hb3) ow3.1 (Nat.le_trans h8 (Nat.le_trans HM.out.1.2.1.size hb3.size)) (by have := HWI.out.xl; omega)
                          have HN := hid_of (And.intro ow4 (os_grown (os_below HM.out.2 hb3) (ow_below HM.out.1 hb3).1 hg4 HM.out.1.2.2))
                          clear hb3 ow3 ow4 hg4
                          go_wp2_with (at_builtin; refine wpl_eq rfl _ _ 61 61 rfl u6 pv v' wq2 w4 rfl rfl hr ?_)
                          go_wp2_with fail
                          go_roundg (g2 + 1 - (P - j))
                          case measure => omega
                          case rel => exact ⟨P, x ++ y, by omega, by omega, rfl, HWN, HN⟩
                        | false =>
                          rw [hbb] at HBb
                          have HE := hid_of (HO.out.1.bad HBI.out HC.out HCB.out (HWI.out.bad2 hd (Or.inr rfl) (by rw [hif]; exact hp) (by rw [← hPd]; exact hb2) hbb))
                          clear hp hd hb2 hbb hif hPd n1 n2 n3 hdl
                          go_wp2_with fail
                          refine (HBd.out _).mono ?_
                          rintro e wq ⟨rfl, hwq⟩
                          subst hwq
                          go_wp2_with fail
                          refine HD.out.mono ?_
                          intro e w3 hE
                          obtain ⟨pv, rfl, ow3⟩ := hE _ HR.out
                          have B3 := hid_of ow3.2.1
                          clear hE ow3
                          go_wp2_with fail
                          refine (HBb.out _).mono ?_
                          rintro e wq2 ⟨rfl, hwq2⟩
                          subst hwq2
                          go_wp2_with fail
                          go_ret2
                          rw [HE.out]
                          exact ⟨rfl, HM.out.1.2.1.trans (B3.out.mono HM.out.1.2.1.size)⟩
                      · have giP : ¬ (P : Int) < (s.size : Int) := by omega
                        have HWN : Hid (WI (bs s) k P (x ++ y)) := by rw [hPd]; exact HWI.out.part hd (Or.inr rfl) (by rw [hif]; exact hp) n2 n3 (Or.inl (by rw [hsl, ← hPd]; omega))
                        clear hp hd hif hPd n1 n2 n3 hdl
                        go_wp2_with fail
                        refine (HBd.out _).mono ?_
                        rintro e wq ⟨rfl, hwq⟩
                        subst hwq
                        go_wp2_with fail
                        refine HD.out.mono ?_
                        intro e w3 hE
                        obtain ⟨pv, rfl, ow3⟩ := hE _ HR.out
                        clear hE
                        have hb3 := ow3.2.1
                        obtain ⟨v', w4, hr, ow4, hg4⟩ := ow_part (ow_below HM.out.1 hb3) ow3.1 (Nat.le_trans h8 (Nat.le_trans HM.out.1.2.1.size hb3.size)) (by have := HWI.out.xl; omega)
                        have HN := hid_of (And.intro ow4 (os_grown (os_below HM.out.2 hb3) (ow_below HM.out.1 hb3).1 hg4 HM.out.1.2.2))
                        clear hb3 ow3 ow4 hg4
                        go_wp2_with (at_builtin; refine wpl_eq rfl _ _ 61 61 rfl u6 pv v' w3 w4 rfl rfl hr ?_)
                        go_wp2_with fail
                        go_roundg (g2 + 1 - (P - j))
                        case measure => omega
                        case rel => exact ⟨P, x ++ y, by omega, by omega, rfl, HWN, HN⟩
                  · have e34 : ((d.toNat : Int) == 34) = false := ne_int (d := 34) h34
                    have e39 : ((d.toNat : Int) == 39) = false := ne_int (d := 39) h39
                    have n34 : ¬ ((d.toNat : Int) = 34) := fun e => by rw [e] at e34; cases e34
                    have n39 : ¬ ((d.toNat : Int) = 39) := fun e => by rw [e] at e39; cases e39
                    have b34 : ((d.toNat : Int) != 34) = true := by simpa using n34
                    have b39 : ((d.toNat : Int) != 39) = true := by simpa using n39
                    have hpl : plainC d = true := by unfold plainC; simp [hb, h34, h39]
                    have HN := hid_of (HWI.out.plain hd hpl)
                    have HO5 : Hid ((wr.alloc (.cells #[.int .u8 (d.toNat : Int)] 5)).ownsRow 8 5 1 u6 x.length (Lib.byteCells x)) := ow_alloc HM.out.1 _
                    have HZ : Hid (8 ≤ (wr.alloc (.cells #[.int .u8 (d.toNat : Int)] 5)).heap.size) := Nat.le_trans h8 (Nat.le_trans HM.out.1.2.1.size (by simp))
                    have HU : Hid ((wr.alloc (.cells #[.int .u8 (d.toNat : Int)] 5)).cell? ⟨wr.heap.size, 0, none⟩ = some (.int .u8 (d.toNat : Int))) := World.cell?_alloc_new wr #[.int .u8 (d.toNat : Int)] 5 0
                    have HXL : Hid (x.length + 1 ≤ 1000000000) := by show _ ≤ _; have := HWI.out.xl; omega
                    clear hd hb h34 h39 hpl
                    go_wp2_with fail
                    refine (HBd.out _).mono ?_
                    rintro e wq ⟨rfl, hwq⟩
                    subst hwq
                    go_wp2_with (at_builtin; refine wpl_one el61 rfl _ _ rfl u6 x.length (Lib.byteCells x) (wq.alloc (.cells #[.int .u8 (d.toNat : Int)] 5)) ⟨wq.heap.size, 0, none⟩ 1 (.int .u8 (d.toNat : Int)) HO5.out HZ.out rfl rfl HU.out rfl HXL.out ?_)
                    intro v' w2 hap
                    have HAP := hid_of (And.intro (ow_one HM.out.1 hap) (os_grown (os_below HM.out.2 ((Below.refl _ _).alloc (Nat.le_refl _) _)) HO5.out hap.2.1 HM.out.1.2.2))
                    clear hap
                    go_wp2_with fail
                    go_roundg g2
                    case measure => omega
                    case rel => exact ⟨j + 1, x ++ [d], by omega, by omega, by rw [show ((j + 1 : Nat) : Int) = (j : Int) + 1 from by omega], HN, HAP⟩
            · have hje : j = s.size := by omega
              have gi : ¬ (j : Int) < (s.size : Int) := by omega
              have HWD := hid_of (HWI.out.done (Or.inl (by rw [hsl]; exact hje)))
              have KJ : k < j := by omega
              clear hje
              have hkj : k < j := KJ
              have HSI := hid_of (HO.out.1.word HBI.out HC.out HCB.out HWD.out hkj (by omega))
              have hcv := ow_conv HM.out.1
              have HO9 : Hid ((wr.alloc (.cells #[.string (mk x)] 9)).ownsRow 8 9 1 u4 ws.length (strC ws)) := (show wr.ownsRow 8 9 1 u4 ws.length (strC ws) from HM.out.2.1).alloc _
              have HZ : Hid (8 ≤ (wr.alloc (.cells #[.string (mk x)] 9)).heap.size) := Nat.le_trans h8 (Nat.le_trans HM.out.1.2.1.size (by simp))
              have HU : Hid ((wr.alloc (.cells #[.string (mk x)] 9)).cell? ⟨wr.heap.size, 0, none⟩ = some (.string (mk x))) := World.cell?_alloc_new wr #[.string (mk x)] 9 0
              have HXL : Hid (ws.length + 1 ≤ 1000000000) := by show _ ≤ _; have := HO.out.1.wl; omega
              go_wp2_with (at_builtin; refine wpl_one el33 rfl _ _ rfl u4 ws.length (strC ws) (wr.alloc (.cells #[.string (mk x)] 9)) ⟨wr.heap.size, 0, none⟩ 1 (.string (mk x)) HO9.out HZ.out rfl rfl HU.out rfl HXL.out ?_)
              intro v' w2 hap
              have HAP := hid_of (os_snoc HM.out.2 hap)
              clear hap
              go_wp2_with fail
              go_roundg (gO - (j - i))
              case measure => omega
              case rel => exact ⟨j, ws ++ [x], hj, by omega, rfl, ⟨HSI.out, HAP.out⟩⟩
      · obtain rfl : k = s.size := by omega
        have gi : ¬ (s.size : Int) < (s.size : Int) := by omega
        have heq : ((s.size : Int) == (s.size : Int)) = true := by simp
        have HE := hid_of (HO.out.1.end_ HBI.out hsl.symm)
        go_wp2_with fail
        go_ret2
        rw [HE.out]
        exact ⟨u4, rfl, HO.out.2.1, HO.out.2.2.2, HO.out.2.2.1⟩
end Go.Proofs.YtfkilbhhpipjbaaGreatDoor.RefSplit
