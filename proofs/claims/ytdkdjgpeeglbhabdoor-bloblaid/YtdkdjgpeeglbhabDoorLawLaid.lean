/- The law BlobLaid, walked. -/
import Derived.Test.YtdkdjgpeeglbhabDoorZeros
import Derived.Deep.RegionHeld3
import Derived.Test.YtdkdjgpeeglbhabDoorLast
namespace Go.Proofs.YtdkdjgpeeglbhabDoor.LawLaid
open Go.RowKit
open Go.Proofs.YtdkdjgpeeglbhabDoor.BlobMath
open Go.Proofs.YtdkdjgpeeglbhabDoor.Span
open Go.Proofs.YtdkdjgpeeglbhabDoor.Bits
open Go.Proofs.YtdkdjgpeeglbhabDoor.Reads
open Go.Proofs.YtdkdjgpeeglbhabDoor.Mem
open Go.Proofs.YtdkdjgpeeglbhabDoor.Splice
open Go.Proofs.YtdkdjgpeeglbhabDoor.Opp
open Go.Proofs.YtdkdjgpeeglbhabDoor.Zeros
open Go.Proofs.YtdkdjgpeeglbhabDoor.Parse
set_option linter.unusedVariables false
set_option linter.unusedSimpArgs false

theorem over_at (l : List UInt8) (a : Nat) (t : List UInt8) (k : Nat) : at8 (over l a t) k = if a ≤ k ∧ k < a + t.length then at8 t (k - a) else at8 l k := by
  have : over l a t = lay (pad l (a + t.length)) a t := rfl
  rw [this, lay_at (by rw [pad_len]; omega)]
  split
  · rfl
  · rw [pad_at]
theorem cut_at (l : List UInt8) (a b k : Nat) (hb : b ≤ l.length) (hk : k < b - a) : at8 ((l.take b).drop a) k = at8 l (a + k) := by
  unfold at8
  simp only [List.getD, List.getElem?_drop]
  rw [List.getElem?_take_of_lt (by omega)]
theorem cut_len (l : List UInt8) (a b : Nat) (hb : b ≤ l.length) : ((l.take b).drop a).length = b - a := by simp; omega
theorem sp_mid (N p m : Nat) (hm : 1 ≤ m) (h : p + m ≤ N) : spA N p ((p : Int) + m - 1) = p ∧ spB N p ((p : Int) + m - 1) = p + m := by
  unfold spA spB fr
  constructor <;> (repeat' split) <;> omega
set_option maxHeartbeats 4000000 in
set_option maxRecDepth 100000 in
theorem walk_no (s : ByteArray) (a : Int) (t : ByteArray) (w : World) (hs : s.size ≤ 140737488351232) (ht : t.size ≤ 140737488351232) (h : 65536 < t.size ∨ 65536 < s.size ∨ t.size = 0) (hh : Has w) :
    Calls Tryd.prog 4 #[.string s, .int .i64 a, .string t] w fun e w' => e = .returned (.bool true) ∧ Below w.heap.size w w' := by
  have HH := hid_of hh
  obtain ⟨p, hp⟩ : ∃ p : Nat, max 0 (min a 65536) = (p : Int) := ⟨(max 0 (min a 65536)).toNat, by omega⟩
  clear hh
  rcases (show 65536 < t.size ∨ (t.size ≤ 65536 ∧ 65536 < s.size) ∨ (t.size ≤ 65536 ∧ s.size ≤ 65536 ∧ t.size = 0) by omega) with h | ⟨h, h'⟩ | ⟨h, h', h0⟩
  · have g : (65536 : Int) < (t.size : Int) := by omega
    go_enter Tryd.func4, Tryd.ntmps4
    go_wp2_with fail
    refine (Sure.sure_call _ HH.out).mono ?_
    rintro e w7 ⟨rfl, b7⟩
    go_wp2
    go_ret
    exact ⟨rfl, b7⟩
  · have g : ¬ (65536 : Int) < (t.size : Int) := by omega
    have g' : (65536 : Int) < (s.size : Int) := by omega
    go_enter Tryd.func4, Tryd.ntmps4
    go_wp2_with fail
    refine (Sure.sure_call _ HH.out).mono ?_
    rintro e w7 ⟨rfl, b7⟩
    go_wp2
    go_ret
    exact ⟨rfl, b7⟩
  · obtain rfl : t = ByteArray.empty := by
      apply ByteArray.ext
      exact Array.eq_empty_of_size_eq_zero h0
    have g' : ¬ (65536 : Int) < (s.size : Int) := by omega
    go_enter Tryd.func4, Tryd.ntmps4
    go_wp2_with fail
    refine (Sure.sure_call _ HH.out).mono ?_
    rintro e w7 ⟨rfl, b7⟩
    go_wp2
    go_ret
    exact ⟨rfl, b7⟩
set_option maxHeartbeats 4000000 in
set_option maxRecDepth 100000 in
theorem walk_yes (s : ByteArray) (a : Int) (t : ByteArray) (w : World) (hs : s.size ≤ 65536) (ht : t.size ≤ 65536) (h0 : 0 < t.size) (hh : Has w) :
    Calls Tryd.prog 4 #[.string s, .int .i64 a, .string t] w fun e w' => e = .returned (.bool true) ∧ Below w.heap.size w w' := by
  have HH := hid_of hh
  obtain ⟨p, hp⟩ : ∃ p : Nat, max 0 (min a 65536) = (p : Int) := ⟨(max 0 (min a 65536)).toNat, by omega⟩
  have hp1 : p ≤ 65536 := by omega
  have hne := not_nil h0
  obtain ⟨U, HU⟩ : ∃ U, Hid (U = mkB (over (txt s) p (txt t))) := ⟨_, hid_of rfl⟩
  have H1 := hid_of (fun w => splice_ok s t p w (by omega) hne h0 (by omega))
  rw [← HU.out] at H1
  have HUt := hid_of (show txt U = over (txt s) p (txt t) by rw [HU.out, txt_mk])
  have HUs := hid_of (show U.size = max s.size (p + t.size) by rw [← txt_len, HUt.out, over_len, txt_len, txt_len])
  have hU := HUs.out
  have hUb : U.size ≤ 140737488351232 := by omega
  have H2 := hid_of (fun w => range_call U (p : Int) ((p : Int) + t.size - 1) w hUb (by unfold InI; omega) (by unfold InI; omega))
  rw [(sp_mid U.size p t.size h0 (by omega)).1, (sp_mid U.size p t.size h0 (by omega)).2] at H2
  rw [show U.extract p (p + t.size) = t by
    apply txt_inj
    rw [txt_extract]
    refine ext8 (by rw [cut_len _ _ _ (by rw [txt_len]; omega), txt_len]; omega) fun k hk => ?_
    rw [cut_len _ _ _ (by rw [txt_len]; omega)] at hk
    rw [cut_at _ _ _ _ (by rw [txt_len]; omega) hk, HUt.out, over_at, txt_len, if_pos ⟨by omega, by omega⟩, Nat.add_sub_cancel_left]] at H2
  obtain ⟨n, HN⟩ : ∃ n, Hid (n = p + t.size) := ⟨_, hid_of rfl⟩
  have hn : (p : Int) + (t.size : Int) = (n : Int) := by rw [HN.out]; simp
  have hnb : n ≤ 131072 := by rw [HN.out]; omega
  have hn1 : 1 ≤ n := by rw [HN.out]; omega
  rw [hn] at H2
  have hmx : max (s.size : Int) (n : Int) = (U.size : Int) := by have := HN.out; omega
  obtain ⟨k, HK⟩ : ∃ k, Hid (k = min p s.size) := ⟨_, hid_of rfl⟩
  have hk : min (p : Int) (s.size : Int) = (k : Int) := by have := HK.out; omega
  have hks : k ≤ s.size := by rw [HK.out]; omega
  have hkp : k ≤ p := by rw [HK.out]; omega
  have hkU : k ≤ U.size := by omega
  have hpU : p ≤ U.size := by omega
  have s1 := head_run U k k rfl hkU
  have s2 := head_run s k k rfl hks
  have s3 := head_run U p p rfl hpU
  have HE := hid_of (show U.extract 0 k = s.extract 0 k by
    apply txt_inj
    rw [txt_extract, txt_extract]
    refine ext8 (by rw [cut_len _ _ _ (by rw [txt_len]; omega), cut_len _ _ _ (by rw [txt_len]; omega)]) fun j hj => ?_
    rw [cut_len _ _ _ (by rw [txt_len]; omega)] at hj
    rw [cut_at _ _ _ _ (by rw [txt_len]; omega) hj, cut_at _ _ _ _ (by rw [txt_len]; omega) hj, HUt.out, over_at, if_neg (by omega)])
  rw [HE.out] at s1
  have HZ := hid_of (fun w => zeros_yes (U.extract 0 p) (s.extract 0 k) p w (by have := cut_size U 0 p; omega) (by
    have l1 : (txt (s.extract 0 k)).length = k := by rw [txt_extract, cut_len _ _ _ (by rw [txt_len]; omega)]; omega
    refine ext8 (by rw [txt_extract, cut_len _ _ _ (by rw [txt_len]; omega), pad_len, l1]; omega) fun j hj => ?_
    rw [txt_extract, cut_len _ _ _ (by rw [txt_len]; omega)] at hj
    rw [txt_extract, cut_at _ _ _ _ (by rw [txt_len]; omega) hj, pad_at, HUt.out, over_at, if_neg (by omega), txt_extract, Nat.zero_add]
    by_cases q : j < k
    · rw [cut_at _ _ _ _ (by rw [txt_len]; omega) (by omega), Nat.zero_add]
    · rw [at8_out (l := ((txt s).take k).drop 0) (by rw [cut_len _ _ _ (by rw [txt_len]; omega)]; omega)]
      have := HK.out
      exact at8_out (by rw [txt_len]; omega)))
  generalize U.extract 0 p = UP at *
  generalize s.extract 0 k = SK at *
  have g1 : ¬ (65536 : Int) < (t.size : Int) := by omega
  have g2 : ¬ (65536 : Int) < (s.size : Int) := by omega
  have g3 : ((U.size : Int) != (U.size : Int)) = false := by simp
  have hw1 : IntKind.i64.wrap (n : Int) = (n : Int) := IntWalk.i64_in _ (by omega)
  have hw2 : IntKind.i64.wrap ((p : Int) + (t.size : Int)) = (n : Int) := by rw [hn, hw1]
  rcases (show s.size ≤ n ∨ n < s.size by omega) with hc | hc
  · have hc' : (s.size : Int) ≤ (n : Int) := by omega
    have hd1 : decide ((s.size : Int) ≤ (n : Int)) = true := decide_eq_true hc'
    have hd2 : decide (s.size ≤ n) = true := decide_eq_true hc
    clear hh HE hp1 hU
    go_enter Tryd.func4, Tryd.ntmps4
    go_wp2_with fail
    refine (H1.out _).mono ?_
    rintro e w1 ⟨rfl, b1⟩
    go_wp2_with fail
    refine (H2.out _).mono ?_
    rintro e w2 ⟨rfl, b2⟩
    have B2 := hid_of (bel b1 b2 (Nat.le_refl _))
    clear b1 b2
    go_wp2_with fail
    go_quiet ((go_at_call 8; exact Calls.quiet_of_same (HZ.out _)))
    have B3 := hid_of (bel B2.out (Reads.below_drewN w2 nq) (Nat.le_refl _))
    generalize w2.drewN nq = W at *
    have B4 := hid_of B3.out.drew
    clear hmx hk hp s1 s2 s3 g3 H1 H2 HZ
    go_wp2_with fail
    refine Last.start (fun _ => True) 25 (by kernel_rfl) ?_
    refine Last.take (i := 0) (v := .int .i64 (p : Int)) rfl (by kernel_rfl) (by kernel_rfl) (by kernel_rfl) (by kernel_rfl) (by decide) (fun _ _ _ h => h) (Or.inl ⟨by kernel_rfl, ?_⟩) trivial ?_
    · intro Wx hSW
      go_simp
    simp only [Act.put, List.setIfInBounds_toArray, List.set_cons_zero, List.set_cons_succ]
    refine Last.take (i := 1) (v := .string t) rfl (by kernel_rfl) (by kernel_rfl) (by kernel_rfl) (by kernel_rfl) (by decide) (fun _ _ _ h => h) (Or.inl ⟨by kernel_rfl, ?_⟩) trivial ?_
    · intro Wx hSW
      go_simp
    simp only [Act.put, List.setIfInBounds_toArray, List.set_cons_zero, List.set_cons_succ]
    refine Last.take (i := 2) (v := .int .i64 (t.size : Int)) rfl (by kernel_rfl) (by kernel_rfl) (by kernel_rfl) (by kernel_rfl) (by decide) (fun _ _ _ h => h) (Or.inl ⟨by kernel_rfl, ?_⟩) trivial ?_
    · intro Wx hSW
      go_simp
    simp only [Act.put, List.setIfInBounds_toArray, List.set_cons_zero, List.set_cons_succ]
    refine Last.take (i := 3) (v := .int .i64 (n : Int)) rfl (by kernel_rfl) (by kernel_rfl) (by kernel_rfl) (by kernel_rfl) (by decide) (fun _ _ _ h => h) (Or.inl ⟨by kernel_rfl, ?_⟩) trivial ?_
    · intro Wx hSW
      go_simp
    simp only [Act.put, List.setIfInBounds_toArray, List.set_cons_zero, List.set_cons_succ]
    refine Last.take (i := 4) (v := .string s) rfl (by kernel_rfl) (by kernel_rfl) (by kernel_rfl) (by kernel_rfl) (by decide) (fun _ _ _ h => h) (Or.inl ⟨by kernel_rfl, ?_⟩) trivial ?_
    · intro Wx hSW
      go_simp
    simp only [Act.put, List.setIfInBounds_toArray, List.set_cons_zero, List.set_cons_succ]
    refine Last.take (i := 5) (v := .int .i64 (s.size : Int)) rfl (by kernel_rfl) (by kernel_rfl) (by kernel_rfl) (by kernel_rfl) (by decide) (fun _ _ _ h => h) (Or.inl ⟨by kernel_rfl, ?_⟩) trivial ?_
    · intro Wx hSW
      go_simp
    simp only [Act.put, List.setIfInBounds_toArray, List.set_cons_zero, List.set_cons_succ]
    refine Last.take (i := 6) (v := .bool true) rfl (by kernel_rfl) (by kernel_rfl) (by kernel_rfl) (by kernel_rfl) (by decide) (fun _ _ _ h => h) (Or.inl ⟨by kernel_rfl, ?_⟩) trivial ?_
    · intro Wx hSW
      go_simp
    simp only [Act.put, List.setIfInBounds_toArray, List.set_cons_zero, List.set_cons_succ]
    refine Last.take (i := 7) (v := .bool true) rfl (by kernel_rfl) (by kernel_rfl) (by kernel_rfl) (by kernel_rfl) (by decide) (fun _ _ _ h => h) (Or.inl ⟨by kernel_rfl, ?_⟩) trivial ?_
    · intro Wx hSW
      go_simp
    simp only [Act.put, List.setIfInBounds_toArray, List.set_cons_zero, List.set_cons_succ]
    refine Last.take (i := 8) (v := undef) rfl (by kernel_rfl) (by kernel_rfl) (by kernel_rfl) (by kernel_rfl) (by decide) (fun _ _ _ h => h) (Or.inr ⟨by kernel_rfl, rfl⟩) trivial ?_
    simp only [Act.put, List.setIfInBounds_toArray, List.set_cons_zero, List.set_cons_succ]
    refine Last.take (i := 9) (v := undef) rfl (by kernel_rfl) (by kernel_rfl) (by kernel_rfl) (by kernel_rfl) (by decide) (fun _ _ _ h => h) (Or.inr ⟨by kernel_rfl, rfl⟩) trivial ?_
    simp only [Act.put, List.setIfInBounds_toArray, List.set_cons_zero, List.set_cons_succ]
    refine Last.take (i := 10) (v := undef) rfl (by kernel_rfl) (by kernel_rfl) (by kernel_rfl) (by kernel_rfl) (by decide) (fun _ _ _ h => h) (Or.inr ⟨by kernel_rfl, rfl⟩) trivial ?_
    simp only [Act.put, List.setIfInBounds_toArray, List.set_cons_zero, List.set_cons_succ]
    refine Last.take (i := 11) (v := undef) rfl (by kernel_rfl) (by kernel_rfl) (by kernel_rfl) (by kernel_rfl) (by decide) (fun _ _ _ h => h) (Or.inr ⟨by kernel_rfl, rfl⟩) trivial ?_
    simp only [Act.put, List.setIfInBounds_toArray, List.set_cons_zero, List.set_cons_succ]
    refine Last.take (i := 12) (v := undef) rfl (by kernel_rfl) (by kernel_rfl) (by kernel_rfl) (by kernel_rfl) (by decide) (fun _ _ _ h => h) (Or.inr ⟨by kernel_rfl, rfl⟩) trivial ?_
    simp only [Act.put, List.setIfInBounds_toArray, List.set_cons_zero, List.set_cons_succ]
    refine Last.take (i := 13) (v := undef) rfl (by kernel_rfl) (by kernel_rfl) (by kernel_rfl) (by kernel_rfl) (by decide) (fun _ _ _ h => h) (Or.inr ⟨by kernel_rfl, rfl⟩) trivial ?_
    simp only [Act.put, List.setIfInBounds_toArray, List.set_cons_zero, List.set_cons_succ]
    refine Last.take (i := 14) (v := undef) rfl (by kernel_rfl) (by kernel_rfl) (by kernel_rfl) (by kernel_rfl) (by decide) (fun _ _ _ h => h) (Or.inr ⟨by kernel_rfl, rfl⟩) trivial ?_
    simp only [Act.put, List.setIfInBounds_toArray, List.set_cons_zero, List.set_cons_succ]
    refine Last.take (i := 15) (v := undef) rfl (by kernel_rfl) (by kernel_rfl) (by kernel_rfl) (by kernel_rfl) (by decide) (fun _ _ _ h => h) (Or.inr ⟨by kernel_rfl, rfl⟩) trivial ?_
    simp only [Act.put, List.setIfInBounds_toArray, List.set_cons_zero, List.set_cons_succ]
    refine Last.take (i := 16) (v := undef) rfl (by kernel_rfl) (by kernel_rfl) (by kernel_rfl) (by kernel_rfl) (by decide) (fun _ _ _ h => h) (Or.inr ⟨by kernel_rfl, rfl⟩) trivial ?_
    simp only [Act.put, List.setIfInBounds_toArray, List.set_cons_zero, List.set_cons_succ]
    refine Last.take (i := 17) (v := undef) rfl (by kernel_rfl) (by kernel_rfl) (by kernel_rfl) (by kernel_rfl) (by decide) (fun _ _ _ h => h) (Or.inr ⟨by kernel_rfl, rfl⟩) trivial ?_
    simp only [Act.put, List.setIfInBounds_toArray, List.set_cons_zero, List.set_cons_succ]
    refine Last.take (i := 18) (v := undef) rfl (by kernel_rfl) (by kernel_rfl) (by kernel_rfl) (by kernel_rfl) (by decide) (fun _ _ _ h => h) (Or.inr ⟨by kernel_rfl, rfl⟩) trivial ?_
    simp only [Act.put, List.setIfInBounds_toArray, List.set_cons_zero, List.set_cons_succ]
    refine Last.take (i := 19) (v := undef) rfl (by kernel_rfl) (by kernel_rfl) (by kernel_rfl) (by kernel_rfl) (by decide) (fun _ _ _ h => h) (Or.inr ⟨by kernel_rfl, rfl⟩) trivial ?_
    simp only [Act.put, List.setIfInBounds_toArray, List.set_cons_zero, List.set_cons_succ]
    refine Last.take (i := 20) (v := undef) rfl (by kernel_rfl) (by kernel_rfl) (by kernel_rfl) (by kernel_rfl) (by decide) (fun _ _ _ h => h) (Or.inr ⟨by kernel_rfl, rfl⟩) trivial ?_
    simp only [Act.put, List.setIfInBounds_toArray, List.set_cons_zero, List.set_cons_succ]
    refine Last.take (i := 21) (v := .bool true) rfl (by kernel_rfl) (by kernel_rfl) (by kernel_rfl) (by kernel_rfl) (by decide) (fun _ _ _ h => h) (Or.inl ⟨by kernel_rfl, ?_⟩) trivial ?_
    · intro Wx hSW
      go_simp
    simp only [Act.put, List.setIfInBounds_toArray, List.set_cons_zero, List.set_cons_succ]
    refine Last.take (i := 22) (v := .bool true) rfl (by kernel_rfl) (by kernel_rfl) (by kernel_rfl) (by kernel_rfl) (by decide) (fun _ _ _ h => h) (Or.inl ⟨by kernel_rfl, ?_⟩) trivial ?_
    · intro Wx hSW
      go_simp
    simp only [Act.put, List.setIfInBounds_toArray, List.set_cons_zero, List.set_cons_succ]
    refine Last.one (i := 23) rfl (by kernel_rfl) ?_
    intro K' hK0
    have hK := hid_of hK0
    clear hK0
    rw [if_pos (by kernel_rfl)]
    go_simp
    refine (Sure.sure_call _ (HH.out.later B4.out)).mono ?_
    rintro e w7 ⟨rfl, b7⟩
    refine hK.out _ _ (fun _ => trivial) ?_
    clear hK K'
    refine Last.take (i := 24) (v := .bool true) rfl (by kernel_rfl) (by kernel_rfl) (by kernel_rfl) (by kernel_rfl) (by decide) (fun _ _ _ h => h) (Or.inl ⟨by kernel_rfl, ?_⟩) trivial ?_
    · intro Wx hSW
      go_simp
    simp only [Act.put, List.setIfInBounds_toArray, List.set_cons_zero, List.set_cons_succ]
    refine Last.one (i := 25) rfl (by kernel_rfl) ?_
    intro K' hK0
    have hK := hid_of hK0
    clear hK0
    rw [if_pos (by kernel_rfl)]
    go_simp
    refine hK.out _ _ (fun _ => trivial) ?_
    clear hK K'
    refine Last.fin (by kernel_rfl) ?_ _
    go_wp2_with fail
    go_ret
    exact ⟨rfl, bel B4.out b7 (Nat.le_refl _)⟩
  · have hc' : ¬ (s.size : Int) ≤ (n : Int) := by omega
    have hd1 : decide ((s.size : Int) ≤ (n : Int)) = false := decide_eq_false hc'
    have hd2 : decide (s.size ≤ n) = false := decide_eq_false (by omega)
    have hc2 : (n : Int) < (s.size : Int) := by omega
    have s4 := Zeros.tail_run U n n rfl (by omega)
    have s5 := Zeros.tail_run s n n rfl (by omega)
    have HE2 := hid_of (show U.extract n U.size = s.extract n s.size by
      have hUs : U.size = s.size := by have := HN.out; omega
      rw [hUs]
      apply txt_inj
      rw [txt_extract, txt_extract]
      refine ext8 (by rw [cut_len _ _ _ (by rw [txt_len]; omega), cut_len _ _ _ (by rw [txt_len]; omega)]) fun j hj => ?_
      rw [cut_len _ _ _ (by rw [txt_len]; omega)] at hj
      rw [cut_at _ _ _ _ (by rw [txt_len]; omega) hj, cut_at _ _ _ _ (by rw [txt_len]; omega) hj, HUt.out, over_at, txt_len, if_neg (by have := HN.out; omega)])
    rw [HE2.out] at s4
    generalize s.extract n s.size = SN at *
    have g4 : (SN.toList == SN.toList) = true := by simp
    clear hh HE hp1 hU
    go_enter Tryd.func4, Tryd.ntmps4
    go_wp2_with fail
    refine (H1.out _).mono ?_
    rintro e w1 ⟨rfl, b1⟩
    go_wp2_with fail
    refine (H2.out _).mono ?_
    rintro e w2 ⟨rfl, b2⟩
    have B2 := hid_of (bel b1 b2 (Nat.le_refl _))
    clear b1 b2
    go_wp2_with fail
    go_quiet ((go_at_call 8; exact Calls.quiet_of_same (HZ.out _)))
    have B3 := hid_of (bel B2.out (Reads.below_drewN w2 nq) (Nat.le_refl _))
    generalize w2.drewN nq = W at *
    have B4 := hid_of B3.out.drew
    clear hmx hk hp s1 s2 s3 g3 H1 H2 HZ
    go_wp2_with fail
    go_region_held3 (fun W => True) (trivial) ((go_at_call 9; refine (Sure.sure_call _ (HH.out.later (by first | exact B3.out | exact B4.out))).mono ?_; rintro e w7 ⟨rfl, b7⟩))
    all_goals
      go_wp2_with fail
      go_ret
      exact ⟨rfl, by first | exact bel B4.out b7 (Nat.le_refl _) | exact bel B3.out b7 (Nat.le_refl _) | exact (bel B4.out b7 (Nat.le_refl _)).drew⟩
theorem walk (s : ByteArray) (a : Int) (t : ByteArray) (w : World) (hs : s.size ≤ 140737488351232) (ha : InI a) (ht : t.size ≤ 140737488351232) (hh : Has w) :
    Calls Tryd.prog 4 #[.string s, .int .i64 a, .string t] w fun e w' => e = .returned (.bool true) ∧ Below w.heap.size w w' := by
  by_cases h : 65536 < t.size ∨ 65536 < s.size ∨ t.size = 0
  · exact walk_no s a t w hs ht h hh
  · exact walk_yes s a t w (by omega) (by omega) (by omega) hh
end Go.Proofs.YtdkdjgpeeglbhabDoor.LawLaid
