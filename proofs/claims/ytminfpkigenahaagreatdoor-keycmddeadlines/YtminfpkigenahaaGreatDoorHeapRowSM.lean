/- container/heap's up and down, moving RowS. -/
import Derived.Test.YtminfpkigenahaaGreatDoorSpaceMathM
namespace Go.Proofs.YtminfpkigenahaaGreatDoor.Heap
open Go.RowKit
open Go.Proofs.YtminfpkigenahaaGreatDoor.HeapMath
set_option linter.unusedVariables false
set_option linter.unusedSimpArgs false
set_option maxHeartbeats 1000000 in
set_option maxRecDepth 100000 in
theorem upRowS {α : Type} [Inhabited α] [DecidableEq α] {lt : α → α → Prop} [DecidableRel lt] (o : STO lt) (pv : Value) {R : World → List α → Prop} {F : World → World → Prop} (M : Moves 218 221 lt pv R F) (w : World) (l : List α) (n j : Nat) (h : R w l) (hn : n ≤ l.length) (hb : l.length ≤ 1099511627776) (hj : j < n) (hu : Up lt l n j) :
    Calls Tryz.prog 61 #[.iface 98 pv, .int .i64 (j : Int)] w fun e w' => e = .returned (.tuple #[]) ∧ (∃ l', R w' l' ∧ Was lt n l l') ∧ F w w' := by
  have HM := hid_of M
  have HO := hid_of o
  have I0 := hid_of (show R w l ∧ Up lt l n j ∧ l.Perm l ∧ (∀ k, n ≤ k → pl l k = pl l k) ∧ F w w from ⟨h, hu, List.Perm.refl _, fun _ _ => rfl, M.refl w⟩)
  have HN := hid_of hn
  clear M o h hu hn
  go_enter Tryz.func61, Tryz.ntmps61
  go_wp2_with fail
  go_loopg [1] j (fun g s1 wx => ∃ (p : Nat) (m : List α), p ≤ g ∧ p < n ∧ s1 = .int .i64 (p : Int) ∧ Hid (R wx m ∧ Up lt m n p ∧ m.Perm l ∧ (∀ k, n ≤ k → pl m k = pl l k) ∧ F w wx))
  case atStart => exact ⟨j, l, Nat.le_refl _, hj, rfl, hid_of ⟨I0.out.1, I0.out.2.1, I0.out.2.2.1, fun _ _ => rfl, I0.out.2.2.2.2⟩⟩
  case round =>
    obtain ⟨p, m, hpg, hpn, rfl, I⟩ := hrel
    have hpb : p ≤ 1099511627776 := by have := HN.out; omega
    have HL := hid_of (I.out.2.2.1.length_eq)
    rcases (show p = 0 ∨ 0 < p by omega) with hp0 | hp0
    · have HF := hid_of (I.out.2.1.fin (.inl hp0))
      subst hp0
      go_wp2_with fail
      go_end0
      exact ⟨rfl, ⟨m, I.out.1, HF.out, I.out.2.2.1, I.out.2.2.2.1⟩, I.out.2.2.2.2⟩
    · obtain ⟨q, HQ⟩ : ∃ q, Hid (q = par p) := ⟨_, hid_of rfl⟩
      have hq : ((p : Int) - 1) / 2 = (q : Int) := by rw [HQ.out]; unfold par; omega
      have hqp : q < p := by rw [HQ.out]; exact par_lt hp0
      have hne : ((q : Int) == (p : Int)) = false := by rw [beq_eq_false_iff_ne]; omega
      have HC := hid_of (HM.out.less wr m p q I.out.1 (by rw [HL.out]; have := HN.out; omega) (by rw [HL.out]; have := HN.out; omega))
      cases hd : decide (lt (pl m p) (pl m q)) with
      | false =>
        have hnl : ¬ lt (pl m p) (pl m (par p)) := by rw [← HQ.out]; exact of_decide_eq_false hd
        have HF := hid_of (I.out.2.1.fin (.inr hnl))
        rw [hd] at HC
        clear hnl hd
        go_wp2_with fail
        refine HC.out.mono ?_
        rintro e w1 ⟨rfl, r1, f1⟩
        have R1 := hid_of (And.intro r1 (HM.out.trans _ _ _ I.out.2.2.2.2 f1))
        clear r1 f1
        go_wp2_with fail
        go_end0
        exact ⟨rfl, ⟨m, R1.out.1, HF.out, I.out.2.2.1, I.out.2.2.2.1⟩, R1.out.2⟩
      | true =>
        obtain ⟨g', rfl⟩ : ∃ g', gk = g' + 1 := ⟨gk - 1, by omega⟩
        have hl : lt (pl m p) (pl m (par p)) := by rw [← HQ.out]; exact of_decide_eq_true hd
        have hml : n ≤ m.length := by rw [HL.out]; exact HN.out
        have HS := hid_of (I.out.2.1.step HO.out hml hp0 hpn hl)
        rw [← HQ.out] at HS
        have HP := hid_of ((swp_perm (l := m) (i := q) (j := p) (by omega) (by omega)).trans I.out.2.2.1)
        have HK := hid_of (fun k (hk : n ≤ k) => (show pl (swp m q p) k = pl l k by rw [swp_at (by omega) (by omega), if_neg (by omega), if_neg (by omega)]; exact I.out.2.2.2.1 k hk))
        rw [hd] at HC
        clear hd hl hml
        go_wp2_with fail
        refine HC.out.mono ?_
        rintro e w1 ⟨rfl, r1, f1⟩
        have HC2 := hid_of (HM.out.swap w1 m q p r1 (by rw [HL.out]; have := HN.out; omega) (by rw [HL.out]; have := HN.out; omega))
        have F1 := hid_of (HM.out.trans _ _ _ I.out.2.2.2.2 f1)
        clear r1 f1 HC
        go_wp2_with fail
        refine HC2.out.mono ?_
        rintro e w2 ⟨rfl, r2, f2⟩
        have I2 := hid_of (show R w2 (swp m q p) ∧ Up lt (swp m q p) n q ∧ (swp m q p).Perm l ∧ (∀ k, n ≤ k → pl (swp m q p) k = pl l k) ∧ F w w2 from ⟨r2, HS.out, HP.out, HK.out, HM.out.trans _ _ _ F1.out f2⟩)
        clear r2 f2 HC2 HS HP HK F1 I
        go_wp2_with fail
        go_roundg g'
        case measure => omega
        case rel => exact ⟨q, swp m q p, by omega, by omega, rfl, I2⟩
set_option maxHeartbeats 4000000 in
set_option maxRecDepth 100000 in
theorem downRowS {α : Type} [Inhabited α] [DecidableEq α] {lt : α → α → Prop} [DecidableRel lt] (o : STO lt) (pv : Value) {R : World → List α → Prop} {F : World → World → Prop} (M : Moves 218 221 lt pv R F) (w : World) (l : List α) (n i0 : Nat) (h : R w l) (hn : n ≤ l.length) (hb : l.length ≤ 1099511627776) (hi : i0 < n) (hd : D0 lt l n i0) :
    Calls Tryz.prog 60 #[.iface 98 pv, .int .i64 (i0 : Int), .int .i64 (n : Int)] w fun e w' => DownE lt n i0 l R F w e w' := by
  have HM := hid_of M
  have HO := hid_of o
  have HD := hid_of hd
  have I0 := hid_of (And.intro h (M.refl w))
  have HN := hid_of hn
  clear M o h hd hn
  go_enter Tryz.func60, Tryz.ntmps60
  go_wp2_with fail
  go_loopg [7] n (fun g s7 wx => ∃ (i : Nat) (m : List α), n ≤ i + g ∧ i < n ∧ i0 ≤ i ∧ s7 = .int .i64 (i : Int) ∧ Hid (R wx m ∧ Mid lt n i0 i l m ∧ F w wx))
  case atStart => exact ⟨i0, l, by omega, hi, Nat.le_refl _, rfl, hid_of ⟨I0.out.1, Mid.start HD.out, I0.out.2⟩⟩
  case round =>
    obtain ⟨i, m, hig, hin, hi0, rfl, I⟩ := hrel
    have hib : i ≤ 1099511627776 := by have := HN.out; omega
    have HL := hid_of (I.out.2.1.perm.length_eq)
    have hml : n ≤ m.length := by rw [HL.out]; exact HN.out
    have gt0 : (((i : Int)) > (i0 : Int)) = ((i0 : Int) < (i : Int)) := rfl
    obtain ⟨j1, HJ1⟩ : ∃ j1, Hid (j1 = 2 * i + 1) := ⟨_, hid_of rfl⟩
    have hj1 : 2 * (i : Int) + 1 = (j1 : Int) := by rw [HJ1.out]; omega
    have hj1b : i < j1 := by rw [HJ1.out]; omega
    by_cases hc1 : n ≤ j1
    · have HE := hid_of (I.out.2.1.fin HO.out (fun k hk hkn hkp => absurd hkn (by have := (par_eq hk).1 hkp; have := HJ1.out; omega)))
      have g1 : (n : Int) ≤ (j1 : Int) := by omega
      go_wp2_with fail
      go_ret
      exact ⟨decide (i0 < i), m, rfl, I.out.1, HE.out, I.out.2.2⟩
    · have g1 : (j1 : Int) < (n : Int) := by omega
      have hj1n : j1 < n := by omega
      obtain ⟨j2, HJ2⟩ : ∃ j2, Hid (j2 = j1 + 1) := ⟨_, hid_of rfl⟩
      have hj2 : (j1 : Int) + 1 = (j2 : Int) := by rw [HJ2.out]; omega
      have kid : Hid (∀ k, 0 < k → k < n → par k = i → k = j1 ∨ k = j2) := fun k hk hkn hkp => by have := (par_eq hk).1 hkp; have := HJ1.out; have := HJ2.out; omega
      have HLs := fun (W : World) (hW : R W m) (a b : Nat) (ha : a < n) (hb : b < n) => HM.out.less W m a b hW (by omega) (by omega)
      have HLS := hid_of HLs
      have HSW := hid_of (fun (W : World) (hW : R W m) (a b : Nat) (ha : a < n) (hb : b < n) => HM.out.swap W m a b hW (by omega) (by omega))
      clear HLs
      by_cases hc2 : j2 < n
      · have g2 : (j2 : Int) < (n : Int) := by omega
        have HC0 := hid_of (HLS.out wr I.out.1 j2 j1 hc2 hj1n)
        cases hd1 : decide (lt (pl m j2) (pl m j1)) with
        | true =>
          have hl1 : lt (pl m j2) (pl m j1) := of_decide_eq_true hd1
          rw [hd1] at HC0
          have HLT := hid_of hl1
          clear hl1 hd1
          go_wp2_with fail
          refine HC0.out.mono ?_
          rintro e w4 ⟨rfl, r4, f4⟩
          have RX := hid_of (And.intro r4 (HM.out.trans _ _ _ I.out.2.2 f4))
          clear r4 f4 HC0
          have HLE : Hid (Least lt m n i j2) := ⟨by omega, hc2, by have := HJ1.out; have := HJ2.out; unfold par; omega, fun k hk hkn hkp => by rcases kid.out k hk hkn hkp with rfl | rfl; exact HO.out.asymm HLT.out; exact HO.out.irr _⟩
          have hjn : j2 < n := HLE.out.2.1
          have HC := hid_of (HLS.out w4 RX.out.1 j2 i hjn hin)
          cases hd2 : decide (lt (pl m j2) (pl m i)) with
          | false =>
            have hnl : ¬ lt (pl m j2) (pl m i) := of_decide_eq_false hd2
            have HE := hid_of (I.out.2.1.fin HO.out (fun k hk hkn hkp => HO.out.le_trans hnl (HLE.out.2.2.2 k hk hkn hkp)))
            rw [hd2] at HC
            clear hnl hd2
            go_wp2_with fail
            refine HC.out.mono ?_
            rintro e w5 ⟨rfl, r5, f5⟩
            have R5 := hid_of (And.intro r5 (HM.out.trans _ _ _ RX.out.2 f5))
            clear r5 f5
            go_wp2_with fail
            go_ret
            exact ⟨decide (i0 < i), m, rfl, R5.out.1, HE.out, R5.out.2⟩
          | true =>
            obtain ⟨g', rfl⟩ : ∃ g', gk = g' + 1 := ⟨gk - 1, by omega⟩
            have HS := hid_of (I.out.2.1.step HO.out hml hin hi0 HLE.out (of_decide_eq_true hd2))
            have hij : i < j2 := by have := par_lt HLE.out.1; have := HLE.out.2.2.1; omega
            rw [hd2] at HC
            clear hd2
            go_wp2_with fail
            refine HC.out.mono ?_
            rintro e w5 ⟨rfl, r5, f5⟩
            have R5 := hid_of (And.intro r5 (HM.out.trans _ _ _ RX.out.2 f5))
            have HC3 := hid_of (HSW.out w5 r5 i j2 hin hjn)
            clear r5 f5 HC
            go_wp2_with fail
            refine HC3.out.mono ?_
            rintro e w6 ⟨rfl, r6, f6⟩
            have I6 := hid_of (show R w6 (swp m i j2) ∧ Mid lt n i0 j2 l (swp m i j2) ∧ F w w6 from ⟨r6, HS.out, HM.out.trans _ _ _ R5.out.2 f6⟩)
            clear r6 f6 HC3 HS R5 I RX
            go_wp2_with fail
            go_roundg g'
            case measure => omega
            case rel => exact ⟨j2, swp m i j2, by omega, hjn, by omega, rfl, I6⟩
        | false =>
          have hl1 : ¬ lt (pl m j2) (pl m j1) := of_decide_eq_false hd1
          rw [hd1] at HC0
          have HLT := hid_of hl1
          clear hl1 hd1
          go_wp2_with fail
          refine HC0.out.mono ?_
          rintro e w4 ⟨rfl, r4, f4⟩
          have RX := hid_of (And.intro r4 (HM.out.trans _ _ _ I.out.2.2 f4))
          clear r4 f4 HC0
          have HLE : Hid (Least lt m n i j1) := ⟨by omega, hj1n, by have := HJ1.out; unfold par; omega, fun k hk hkn hkp => by rcases kid.out k hk hkn hkp with rfl | rfl; exact HO.out.irr _; exact HLT.out⟩
          have hjn : j1 < n := HLE.out.2.1
          have HC := hid_of (HLS.out w4 RX.out.1 j1 i hjn hin)
          cases hd2 : decide (lt (pl m j1) (pl m i)) with
          | false =>
            have hnl : ¬ lt (pl m j1) (pl m i) := of_decide_eq_false hd2
            have HE := hid_of (I.out.2.1.fin HO.out (fun k hk hkn hkp => HO.out.le_trans hnl (HLE.out.2.2.2 k hk hkn hkp)))
            rw [hd2] at HC
            clear hnl hd2
            go_wp2_with fail
            refine HC.out.mono ?_
            rintro e w5 ⟨rfl, r5, f5⟩
            have R5 := hid_of (And.intro r5 (HM.out.trans _ _ _ RX.out.2 f5))
            clear r5 f5
            go_wp2_with fail
            go_ret
            exact ⟨decide (i0 < i), m, rfl, R5.out.1, HE.out, R5.out.2⟩
          | true =>
            obtain ⟨g', rfl⟩ : ∃ g', gk = g' + 1 := ⟨gk - 1, by omega⟩
            have HS := hid_of (I.out.2.1.step HO.out hml hin hi0 HLE.out (of_decide_eq_true hd2))
            have hij : i < j1 := by have := par_lt HLE.out.1; have := HLE.out.2.2.1; omega
            rw [hd2] at HC
            clear hd2
            go_wp2_with fail
            refine HC.out.mono ?_
            rintro e w5 ⟨rfl, r5, f5⟩
            have R5 := hid_of (And.intro r5 (HM.out.trans _ _ _ RX.out.2 f5))
            have HC3 := hid_of (HSW.out w5 r5 i j1 hin hjn)
            clear r5 f5 HC
            go_wp2_with fail
            refine HC3.out.mono ?_
            rintro e w6 ⟨rfl, r6, f6⟩
            have I6 := hid_of (show R w6 (swp m i j1) ∧ Mid lt n i0 j1 l (swp m i j1) ∧ F w w6 from ⟨r6, HS.out, HM.out.trans _ _ _ R5.out.2 f6⟩)
            clear r6 f6 HC3 HS R5 I RX
            go_wp2_with fail
            go_roundg g'
            case measure => omega
            case rel => exact ⟨j1, swp m i j1, by omega, hjn, by omega, rfl, I6⟩
      · have g2 : ¬ (j2 : Int) < (n : Int) := by omega
        have RX := hid_of (And.intro I.out.1 I.out.2.2)
        have HLE : Hid (Least lt m n i j1) := ⟨by omega, hj1n, by have := HJ1.out; unfold par; omega, fun k hk hkn hkp => by rcases kid.out k hk hkn hkp with rfl | rfl; exact HO.out.irr _; exact absurd hkn hc2⟩
        have hjn : j1 < n := HLE.out.2.1
        have HC := hid_of (HLS.out wr RX.out.1 j1 i hjn hin)
        cases hd2 : decide (lt (pl m j1) (pl m i)) with
        | false =>
          have hnl : ¬ lt (pl m j1) (pl m i) := of_decide_eq_false hd2
          have HE := hid_of (I.out.2.1.fin HO.out (fun k hk hkn hkp => HO.out.le_trans hnl (HLE.out.2.2.2 k hk hkn hkp)))
          rw [hd2] at HC
          clear hnl hd2
          go_wp2_with fail
          refine HC.out.mono ?_
          rintro e w5 ⟨rfl, r5, f5⟩
          have R5 := hid_of (And.intro r5 (HM.out.trans _ _ _ RX.out.2 f5))
          clear r5 f5
          go_wp2_with fail
          go_ret
          exact ⟨decide (i0 < i), m, rfl, R5.out.1, HE.out, R5.out.2⟩
        | true =>
          obtain ⟨g', rfl⟩ : ∃ g', gk = g' + 1 := ⟨gk - 1, by omega⟩
          have HS := hid_of (I.out.2.1.step HO.out hml hin hi0 HLE.out (of_decide_eq_true hd2))
          have hij : i < j1 := by have := par_lt HLE.out.1; have := HLE.out.2.2.1; omega
          rw [hd2] at HC
          clear hd2
          go_wp2_with fail
          refine HC.out.mono ?_
          rintro e w5 ⟨rfl, r5, f5⟩
          have R5 := hid_of (And.intro r5 (HM.out.trans _ _ _ RX.out.2 f5))
          have HC3 := hid_of (HSW.out w5 r5 i j1 hin hjn)
          clear r5 f5 HC
          go_wp2_with fail
          refine HC3.out.mono ?_
          rintro e w6 ⟨rfl, r6, f6⟩
          have I6 := hid_of (show R w6 (swp m i j1) ∧ Mid lt n i0 j1 l (swp m i j1) ∧ F w w6 from ⟨r6, HS.out, HM.out.trans _ _ _ R5.out.2 f6⟩)
          clear r6 f6 HC3 HS R5 I RX
          go_wp2_with fail
          go_roundg g'
          case measure => omega
          case rel => exact ⟨j1, swp m i j1, by omega, hjn, by omega, rfl, I6⟩
end Go.Proofs.YtminfpkigenahaaGreatDoor.Heap
