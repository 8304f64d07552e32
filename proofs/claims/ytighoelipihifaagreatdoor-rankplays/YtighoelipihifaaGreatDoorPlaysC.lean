/- The document's Slice and Pop. -/
import Derived.Test.YtighoelipihifaaGreatDoorPlaysA
import Derived.Deep.RegionHeld3
namespace Go.Proofs.YtighoelipihifaaGreatDoor.PlaysC
open Go.RowKit Go.Maps Go.Sort
open Go.Proofs.YtighoelipihifaaGreatDoor.MapMath
open Go.Proofs.YtighoelipihifaaGreatDoor.RankMath
open Go.Proofs.YtighoelipihifaaGreatDoor.RankMath2
open Go.Proofs.YtighoelipihifaaGreatDoor.RankMath3
open Go.Proofs.YtighoelipihifaaGreatDoor.Base
open Go.Proofs.YtighoelipihifaaGreatDoor.Cmp
open Go.Proofs.YtighoelipihifaaGreatDoor.PlaysA
set_option linter.unusedVariables false
set_option linter.unusedSimpArgs false
theorem pop_t (l : EL) (n : Nat) (h : n ≤ l.length) : (l.drop (l.length - n)).reverse = popS l n true := by
  unfold popS runS way
  rw [if_pos rfl, List.drop_zero, List.take_reverse]
theorem pop_f (l : EL) (n : Nat) : l.take n = popS l n false := by
  unfold popS runS way
  simp
theorem kp_nil (B : Nat) (w : World) : Kp B w (.slice none 0 0) := fun p n c e => by
  injection e with e
  cases e
set_option maxRecDepth 100000 in
theorem rslice_call (B : Nat) (v : Value) (l : EL) (f t : Int) (r : Bool) (w : World) (h : FS w v l) (hk : Kp B w v) (hn : l.length ≤ big) (hf1 : -9223372036854775808 ≤ f) (hf2 : f ≤ 9223372036854775807) (ht1 : -9223372036854775808 ≤ t) (ht2 : t ≤ 9223372036854775807) : Calls Tryz.prog 38 #[v, .int .i64 f, .int .i64 t, .bool r] w fun e w' => RR B (slS l f t r) w e w' := by
  have hn9 : l.length ≤ 9000000000000 := hn
  have HW := hid_of (way_call B v l r w h hk hn)
  obtain ⟨a, c, rfl, hc, h'⟩ := h
  obtain ⟨F0, hF0⟩ : ∃ F0, F0 = fromS l.length f := ⟨_, rfl⟩
  obtain ⟨T0, hT0⟩ : ∃ T0, T0 = toS l.length t := ⟨_, rfl⟩
  have HSl : Hid (slS l f t r = if T0 < F0 then [] else runS l F0.toNat (T0 - F0 + 1).toNat r) := by unfold slS; rw [← hF0, ← hT0]; exact hid_of rfl
  have hFr : 0 ≤ F0 := by rw [hF0]; unfold fromS; split <;> omega
  have hTr : T0 ≤ (l.length : Int) - 1 := by rw [hT0]; unfold toS; omega
  have a1 : IntKind.i64.wrap (f + (l.length : Int)) = f + (l.length : Int) ∨ 0 ≤ f := by
    by_cases q : f < 0
    · exact .inl (IntWalk.i64_in _ (by omega))
    · exact .inr (by omega)
  have a2 : IntKind.i64.wrap (t + (l.length : Int)) = t + (l.length : Int) ∨ 0 ≤ t := by
    by_cases q : t < 0
    · exact .inl (IntWalk.i64_in _ (by omega))
    · exact .inr (by omega)
  have e3 : IntKind.i64.wrap ((l.length : Int) - 1) = (l.length : Int) - 1 := IntWalk.i64_in _ (by omega)
  have HTT : Hid (T0 < F0 ∨ ∃ i j : Nat, F0 = (i : Int) ∧ T0 + 1 = (j : Int) ∧ i + 1 ≤ j ∧ j ≤ l.length) := by
    by_cases q : T0 < F0
    · exact hid_of (.inl q)
    · exact hid_of (.inr ⟨F0.toNat, (T0 + 1).toNat, by omega, by omega, by omega, by omega⟩)
  have hfin : ∀ (w1 : World) (a1 : Option Addr) (c1 : Nat) (i j : Nat), F0 = (i : Int) → T0 + 1 = (j : Int) → i + 1 ≤ j → j ≤ l.length → FS w1 (.slice a1 l.length c1) (way l r) → Kp B w1 (.slice a1 l.length c1) → FS w1 (.slice (ca a1 c1 i) (j - i) (c1 - i)) (slS l f t r) ∧ Kp B w1 (.slice (ca a1 c1 i) (j - i) (c1 - i)) := fun w1 a1 c1 i j hi hj hij hjl h1 h2 => by
    have hwl : (way l r).length = l.length := way_len l r
    have q := FS.drop (l := way l r) (by rw [hwl]; exact h1) i (by omega)
    rw [hwl] at q
    have hdl : ((way l r).drop i).length = l.length - i := by rw [List.length_drop, hwl]
    have q2 := FS.take (l := (way l r).drop i) (by rw [hdl]; exact q) (j - i) (by omega)
    rw [HSl.out, if_neg (show ¬ T0 < F0 by omega)]
    unfold runS
    rw [show F0.toNat = i by omega, show (T0 - F0 + 1).toNat = j - i by omega]
    exact ⟨q2, kp_drop h2 i _ _⟩
  have HFin := hid_of hfin
  have hcw : ∀ (v1 : Value) (w1 : World), FS w1 v1 (way l r) → ∃ a1 c1, v1 = .slice a1 l.length c1 ∧ l.length ≤ c1 := fun v1 w1 hh => by
    obtain ⟨a1, c1, e, h1, _⟩ := hh
    rw [way_len] at e h1
    exact ⟨a1, c1, e, h1⟩
  have HCW := hid_of hcw
  have HN : Hid (T0 < F0 → slS l f t r = []) := hid_of fun q => by rw [HSl.out, if_pos q]
  obtain ⟨SL, HSL⟩ : ∃ SL, SL = slS l f t r := ⟨_, rfl⟩
  rw [← HSL] at HFin HN ⊢
  clear h' hk hfin hcw HSL
  have e1 : (if f < 0 then max (0 : Int) (f + (l.length : Int)) else f) = F0 := by rw [hF0]; unfold fromS; split <;> omega
  have e2 : min (if t < 0 then t + (l.length : Int) else t) ((l.length : Int) - 1) = T0 := by rw [hT0]; rfl
  clear hF0 hT0 HSl
  by_cases q1 : f < 0 <;> by_cases q2 : t < 0
  all_goals
    first | rw [if_pos q1] at e1 | rw [if_neg q1] at e1
    first | rw [if_pos q2] at e2 | rw [if_neg q2] at e2
    first | (have b1 : IntKind.i64.wrap (f + (l.length : Int)) = f + (l.length : Int) := a1.resolve_right (by omega)) | (have b1 : True := trivial)
    first | (have b2 : IntKind.i64.wrap (t + (l.length : Int)) = t + (l.length : Int) := a2.resolve_right (by omega)) | (have b2 : True := trivial)
    clear a1 a2
    rcases HTT.out with q3 | ⟨i, j, hi, hj, hij, hjl⟩
    · go_enter Tryz.func38, Tryz.ntmps38
      go_wp2_with fail
      go_ret
      exact ⟨_, rfl, by rw [HN.out q3]; exact ⟨none, 0, rfl, Nat.le_refl _, .inl rfl⟩, kp_nil _ _, Below.refl _ _⟩
    · have hnl : ¬ T0 < F0 := by omega
      have ej : IntKind.i64.wrap (T0 + 1) = (j : Int) := by rw [hj]; exact IntWalk.i64_in _ (by omega)
      have ei := hi
      have hij' : (i : Int) ≤ (j : Int) := by omega
      have hcut : ∀ (a1 : Option Addr) (c1 : Nat), l.length ≤ c1 → ∀ W, (Instr.slice 22 (.slice a1 l.length c1) (some (.int .i64 (i : Int))) (some (.int .i64 (j : Int))) none).run Tryz.prog W = .ok (.slice (ca a1 c1 i) (j - i) (c1 - i)) W := fun a1 c1 hc1 W => cut_any a1 l.length c1 i j (by omega) (by omega) W
      go_enter Tryz.func38, Tryz.ntmps38
      go_wp2_with fail
      refine HW.out.mono ?_
      rintro e w1 ⟨v1, rfl, f1, k1, b1⟩
      obtain ⟨a3, c3, rfl, hc3⟩ := HCW.out _ _ f1
      have hcut3 := hcut a3 c3 hc3
      have HX := hid_of (HFin.out w1 a3 c3 i j hi hj hij hjl f1 k1)
      have HB1 := hid_of b1
      clear f1 k1 b1 hcut
      try rw [hi]
      try rw [ei]
      go_wp2_with fail
      go_ret
      exact ⟨_, rfl, HX.out.1, HX.out.2, HB1.out⟩
set_option maxHeartbeats 1000000 in
set_option maxRecDepth 100000 in
theorem rpop_call (B : Nat) (v : Value) (l : EL) (x : Int) (g : Bool) (w : World) (h : FS w v l) (hk : Kp B w v) (hn : l.length ≤ big) : Calls Tryz.prog 41 #[v, .int .i64 x, .bool g] w fun e w' => ∃ v1 v2, e = .returned (.tuple #[v1, v2]) ∧ FS w' v1 (popS l (clampS x l.length) g) ∧ FS w' v2 (leftS l (clampS x l.length) g) ∧ Kp B w' v2 ∧ Kp B w' v1 ∧ Below w.heap.size w w' := by
  have hn9 : l.length ≤ 9000000000000 := hn
  have HK := hid_of hk
  have HF := hid_of h
  obtain ⟨a, c, rfl, hc, h'⟩ := h
  obtain ⟨K, HKd⟩ : ∃ K, Hid (K = clampS x l.length) := ⟨_, hid_of rfl⟩
  have hKl : K ≤ l.length := by rw [HKd.out]; exact clampS_le _ _
  have hmx : max (0 : Int) (min x (l.length : Int)) = (K : Int) := by rw [HKd.out]; exact clamp_int _ _
  rw [← HKd.out]
  clear h' hk
  cases g with
  | true =>
    obtain ⟨M, hM⟩ : ∃ M, M + K = l.length := ⟨l.length - K, by omega⟩
    have e1 : IntKind.i64.wrap ((l.length : Int) - (K : Int)) = (M : Int) := by rw [IntWalk.i64_in _ (by omega)]; omega
    have e1' : (l.length : Int) - (K : Int) = (M : Int) := by omega
    have e1'' : IntKind.i64.wrap (M : Int) = (M : Int) := IntWalk.i64_in _ (by omega)
    have hcut1 := cut_lo a l.length c M (by omega)
    have hcut2 := cut_hi a l.length c M (by omega)
    have HE : Hid (popS l K true = (l.drop M).reverse ∧ leftS l K true = l.take M) := by
      refine hid_of ⟨?_, ?_⟩
      · rw [← pop_t l K hKl, show l.length - K = M by omega]
      · unfold leftS; rw [if_pos rfl, show l.length - K = M by omega]
    have HLd : Hid ((l.drop M).length = l.length - M) := hid_of List.length_drop
    have HT := hid_of fun (W : World) (k : Below w.heap.size w W) => turned_call (.slice (ca a c M) (l.length - M) (c - M)) (l.drop M) W ((HF.out.drop M (by omega)).below k) (by rw [HLd.out]; omega)
    have HTk := hid_of fun (W : World) (k : Below w.heap.size w W) => And.intro ((HF.out.take M (by omega)).below k) ((kp_take HK.out M c).below k)
    go_enter Tryz.func41, Tryz.ntmps41
    go_wp2_with fail
    go_region_held3 (fun _ => True) (exact trivial) (first
      | (go_at_call 67; refine (HT.out _ (Below.refl _ w).drew).mono ?_; rintro e w1 ⟨v1, rfl, o1, b1⟩))
    go_wp2_with fail
    go_ret2
    have bb : Below w.heap.size w w1 := (Below.refl _ w).drew.trans b1
    exact ⟨_, _, rfl, by rw [HE.out.1]; exact fs_row o1, by rw [HE.out.2]; exact (HTk.out _ bb).1, (HTk.out _ bb).2, kp_row o1, bb⟩
  | false =>
    have hcut1 := cut_lo a l.length c K hKl
    have hcut2 := cut_hi a l.length c K (by omega)
    have HE : Hid (popS l K false = l.take K ∧ leftS l K false = l.drop K) := hid_of ⟨(pop_f l K).symm, rfl⟩
    have HA2 := hid_of (kp_take HK.out K c)
    have HA := hid_of (And.intro (HF.out.take K hKl) (And.intro (HF.out.drop K hKl) (kp_drop HK.out K (l.length - K) (c - K))))
    go_enter Tryz.func41, Tryz.ntmps41
    go_wp2_with fail
    go_quiet (fail)
    go_wp2_with fail
    go_ret2
    exact ⟨_, _, rfl, by rw [HE.out.1]; exact HA.out.1.below (bdrew (Below.refl _ w) _), by rw [HE.out.2]; exact HA.out.2.1.below (bdrew (Below.refl _ w) _), HA.out.2.2.below (bdrew (Below.refl _ w) _), HA2.out.below (bdrew (Below.refl _ w) _), bdrew (Below.refl _ w) _⟩
end Go.Proofs.YtighoelipihifaaGreatDoor.PlaysC
