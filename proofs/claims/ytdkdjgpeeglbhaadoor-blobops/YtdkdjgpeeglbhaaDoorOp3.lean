/- Op of the code, whole. -/
import Derived.Test.YtdkdjgpeeglbhaaDoorOp2
namespace Go.Proofs.YtdkdjgpeeglbhaaDoor.Opp
open Go.RowKit
open Go.Proofs.YtdkdjgpeeglbhaaDoor.BlobMath
open Go.Proofs.YtdkdjgpeeglbhaaDoor.Span
open Go.Proofs.YtdkdjgpeeglbhaaDoor.Bits
open Go.Proofs.YtdkdjgpeeglbhaaDoor.Reads
open Go.Proofs.YtdkdjgpeeglbhaaDoor.Mem
set_option linter.unusedVariables false
set_option linter.unusedSimpArgs false

theorem ret_s0 {a b : ByteArray} {c : Int} (h : a = b) : Ending.returned (.tuple #[.string a, .int .i64 c]) = .returned (.tuple #[.string b, .int .i64 c]) := by rw [h]
set_option maxHeartbeats 1000000 in
set_option maxRecDepth 100000 in
theorem op_1 (b o cap : Nat) (L : List ByteArray) (w : World) (h : SS w b o L) (hL : Small L) (hn : 0 < L.length) (hc : L.length ≤ cap) (hcb : L.length ≤ 140737488351232) :
    Calls Tryd.prog 22 #[.int .i64 1, .slice (some ⟨b, o, none⟩) L.length cap] w fun e w' => e = .returned (.tuple #[.string (mkB (opS 1 L)), .int .i64 0]) ∧ Below w.heap.size w w' := by
  have H1 := hid_of (fun w h => lengths_call b o cap L w h hL hn hc hcb)
  obtain ⟨o', ho, hsl⟩ := tail_run b o L.length cap hn hc
  obtain ⟨n, HN⟩ : ∃ n, Hid (n = L.length) := ⟨_, hid_of rfl⟩
  have HC := hid_of h
  have HO := hid_of ho
  have h0 := h.cell 0 hn
  rw [Nat.add_zero] at h0
  obtain ⟨s0, HS0⟩ : ∃ s0, Hid (s0 = L[0]) := ⟨_, hid_of rfl⟩
  rw [← HS0.out] at h0
  have h0s : s0.size ≤ 140737488351232 := by rw [HS0.out]; exact hL _ (List.getElem_mem hn)
  have HT0 := hid_of (show tx L 0 = txt s0 by rw [tx_in L 0 hn, HS0.out])
  obtain ⟨M, HM⟩ : ∃ M, Hid (M = mx L L.length) := ⟨_, hid_of rfl⟩
  obtain ⟨m, Hm⟩ : ∃ m, Hid (m = mn L L.length) := ⟨_, hid_of rfl⟩
  have hM : M ≤ 140737488351232 := by rw [HM.out]; exact mx_bd hL _
  have hmM : m ≤ M := by rw [HM.out, Hm.out]; exact mn_mx L _ hn
  have hs0M : s0.size ≤ M := by rw [HM.out, ← txt_len, ← HT0.out]; exact mx_le L 0 _ hn
  rw [← HM.out, ← Hm.out] at H1
  have H2 := hid_of (fun w => laid_call s0 M w h0s hM)
  rw [show max s0.size M = M by omega] at H2
  have HAC := hid_of (show pad (txt s0) M = accL 1 L M 0 by rw [accL, HT0.out])
  rw [HAC.out] at H2
  have HAL := hid_of (fun k => accL_len 1 L M (by rw [HM.out]; exact mx_le L 0 _ hn) k)
  have hbw := h.lt
  have HJ := hid_of (fun (wx : World) (g k : Nat) (hk : k + 1 < L.length) (hr : BRow wx g (accL 1 L M k)) => join_1 g M (accL 1 L M k) L[k + 1] wx (HAL.out k) hM (by rw [HM.out, ← tx_len L _ hk]; exact mx_le L _ _ hk) hr)
  rw [← HN.out] at H1 hsl hc hn hcb ⊢
  have e1 : (0 : Int) < (n : Int) := by omega
  have e2 : (1 : Int) ≤ (n : Int) := by omega
  have e3 : ((n : Int) == 0) = false := by rw [beq_eq_false_iff_ne]; omega
  clear h ho
  go_enter Tryd.func22, Tryd.ntmps22
  go_wp2_with fail
  refine (H1.out _ HC.out).mono ?_
  rintro e w1 ⟨rfl, m1, rfl⟩
  go_wp2_with fail
  refine (H2.out _).mono ?_
  rintro e w2 ⟨rfl, r2, b2, l2⟩
  obtain ⟨oz, hoz, hslz⟩ := from_any w.heap.size M m (m : Int) rfl hmM
  have HOZ := hid_of hoz
  clear hoz
  have HI0 := hid_of (And.intro (show BRow w2 w.heap.size _ from r2) (bel (below_drewN w m1) b2 (Nat.le_refl _)))
  clear r2 b2
  go_wp2_with fail
  go_loopw [45] (fun x wr => ∃ k : Nat, k ≤ n - 1 ∧ x = .int .i64 (k : Int) ∧ Hid (BRow wr w.heap.size (accL 1 L M k) ∧ Below w.heap.size w wr)) (fun x _ => n - (intOf x).toNat)
  case atStart => exact ⟨0, Nat.zero_le _, rfl, HI0⟩
  case round =>
    obtain ⟨k, hk, rfl, HI⟩ := hrel
    by_cases hlt : k < n - 1
    · have hkn : k + 1 < L.length := by have := HN.out; omega
      have hct := (HC.out.keep HI.out.2 hbw).cell (k + 1) hkn
      rw [show o + (k + 1) = o' + k by rw [HO.out (by omega)]; omega] at hct
      have HJ1 := hid_of (HJ.out wr w.heap.size k hkn HI.out.1)
      obtain ⟨s, HS⟩ : ∃ s, Hid (s = L[k + 1]) := ⟨_, hid_of rfl⟩
      rw [← HS.out] at hct HJ1
      have HTL := hid_of (show joinN 1 (accL 1 L M k) (txt s) s.size = accL 1 L M (k + 1) by rw [accL, tx_in L _ hkn, HS.out, txt_len])
      rw [HTL.out] at HJ1
      go_wp2_with fail
      refine (HJ1.out).mono ?_
      rintro e w4 ⟨rfl, r4, b4⟩
      have HI2 := hid_of (And.intro r4 (HI.out.2.trans (b4 _ (Nat.le_refl _))))
      clear r4 b4
      go_wp2
      exact ⟨⟨k + 1, by omega, by go_num, HI2⟩, by simp [intOf]; omega⟩
    · have HE := hid_of (show k = L.length - 1 by have := HN.out; omega)
      obtain ⟨w5, hcl, r5, b5⟩ := clear_run HI.out.1 (HAL.out k) hmM HOZ.out 0
      have hcl2 : ∀ ty, (Builtin.clear_ #[54] ty #[.slice (some ⟨w.heap.size, oz, none⟩) (M - m) (M - m)]).run Tryd.prog wr = .ok (.tuple #[]) w5 := fun ty => hcl
      have hconv := r5.conv M M (by rw [zeroed_len _ _ (by rw [HAL.out]; exact hmM), HAL.out])
      have HF := hid_of (show zeroed (accL 1 L M k) m = opS 1 L by rw [HE.out, HM.out, Hm.out]; exact op_and L (by have := HN.out; omega))
      have B5 := hid_of (HI.out.2.trans (b5 _ (Nat.le_refl _)))
      clear hcl r5 b5
      go_wp2_with (simp only [hcl2])
      go_ret2
      exact ⟨ret_s0 (by rw [HF.out]), B5.out⟩
set_option maxHeartbeats 1000000 in
set_option maxRecDepth 100000 in
theorem op_2 (b o cap : Nat) (L : List ByteArray) (w : World) (h : SS w b o L) (hL : Small L) (hn : 0 < L.length) (hc : L.length ≤ cap) (hcb : L.length ≤ 140737488351232) :
    Calls Tryd.prog 22 #[.int .i64 2, .slice (some ⟨b, o, none⟩) L.length cap] w fun e w' => e = .returned (.tuple #[.string (mkB (opS 2 L)), .int .i64 0]) ∧ Below w.heap.size w w' := by
  have H1 := hid_of (fun w h => lengths_call b o cap L w h hL hn hc hcb)
  obtain ⟨o', ho, hsl⟩ := tail_run b o L.length cap hn hc
  obtain ⟨n, HN⟩ : ∃ n, Hid (n = L.length) := ⟨_, hid_of rfl⟩
  have HC := hid_of h
  have HO := hid_of ho
  have h0 := h.cell 0 hn
  rw [Nat.add_zero] at h0
  obtain ⟨s0, HS0⟩ : ∃ s0, Hid (s0 = L[0]) := ⟨_, hid_of rfl⟩
  rw [← HS0.out] at h0
  have h0s : s0.size ≤ 140737488351232 := by rw [HS0.out]; exact hL _ (List.getElem_mem hn)
  have HT0 := hid_of (show tx L 0 = txt s0 by rw [tx_in L 0 hn, HS0.out])
  obtain ⟨M, HM⟩ : ∃ M, Hid (M = mx L L.length) := ⟨_, hid_of rfl⟩
  obtain ⟨m, Hm⟩ : ∃ m, Hid (m = mn L L.length) := ⟨_, hid_of rfl⟩
  have hM : M ≤ 140737488351232 := by rw [HM.out]; exact mx_bd hL _
  have hmM : m ≤ M := by rw [HM.out, Hm.out]; exact mn_mx L _ hn
  have hs0M : s0.size ≤ M := by rw [HM.out, ← txt_len, ← HT0.out]; exact mx_le L 0 _ hn
  rw [← HM.out, ← Hm.out] at H1
  have H2 := hid_of (fun w => laid_call s0 M w h0s hM)
  rw [show max s0.size M = M by omega] at H2
  have HAC := hid_of (show pad (txt s0) M = accL 2 L M 0 by rw [accL, HT0.out])
  rw [HAC.out] at H2
  have HAL := hid_of (fun k => accL_len 2 L M (by rw [HM.out]; exact mx_le L 0 _ hn) k)
  have hbw := h.lt
  have HJ := hid_of (fun (wx : World) (g k : Nat) (hk : k + 1 < L.length) (hr : BRow wx g (accL 2 L M k)) => join_2 g M (accL 2 L M k) L[k + 1] wx (HAL.out k) hM (by rw [HM.out, ← tx_len L _ hk]; exact mx_le L _ _ hk) hr)
  rw [← HN.out] at H1 hsl hc hn hcb ⊢
  have e1 : (0 : Int) < (n : Int) := by omega
  have e2 : (1 : Int) ≤ (n : Int) := by omega
  have e3 : ((n : Int) == 0) = false := by rw [beq_eq_false_iff_ne]; omega
  clear h ho
  go_enter Tryd.func22, Tryd.ntmps22
  go_wp2_with fail
  refine (H1.out _ HC.out).mono ?_
  rintro e w1 ⟨rfl, m1, rfl⟩
  go_wp2_with fail
  refine (H2.out _).mono ?_
  rintro e w2 ⟨rfl, r2, b2, l2⟩
  have HI0 := hid_of (And.intro (show BRow w2 w.heap.size _ from r2) (bel (below_drewN w m1) b2 (Nat.le_refl _)))
  clear r2 b2
  go_wp2_with fail
  go_loopw [45] (fun x wr => ∃ k : Nat, k ≤ n - 1 ∧ x = .int .i64 (k : Int) ∧ Hid (BRow wr w.heap.size (accL 2 L M k) ∧ Below w.heap.size w wr)) (fun x _ => n - (intOf x).toNat)
  case atStart => exact ⟨0, Nat.zero_le _, rfl, HI0⟩
  case round =>
    obtain ⟨k, hk, rfl, HI⟩ := hrel
    by_cases hlt : k < n - 1
    · have hkn : k + 1 < L.length := by have := HN.out; omega
      have hct := (HC.out.keep HI.out.2 hbw).cell (k + 1) hkn
      rw [show o + (k + 1) = o' + k by rw [HO.out (by omega)]; omega] at hct
      have HJ1 := hid_of (HJ.out wr w.heap.size k hkn HI.out.1)
      obtain ⟨s, HS⟩ : ∃ s, Hid (s = L[k + 1]) := ⟨_, hid_of rfl⟩
      rw [← HS.out] at hct HJ1
      have HTL := hid_of (show joinN 2 (accL 2 L M k) (txt s) s.size = accL 2 L M (k + 1) by rw [accL, tx_in L _ hkn, HS.out, txt_len])
      rw [HTL.out] at HJ1
      go_wp2_with fail
      refine (HJ1.out).mono ?_
      rintro e w4 ⟨rfl, r4, b4⟩
      have HI2 := hid_of (And.intro r4 (HI.out.2.trans (b4 _ (Nat.le_refl _))))
      clear r4 b4
      go_wp2
      exact ⟨⟨k + 1, by omega, by go_num, HI2⟩, by simp [intOf]; omega⟩
    · have HE := hid_of (show k = L.length - 1 by have := HN.out; omega)
      have hconv := HI.out.1.conv M M (by rw [HAL.out])
      have HF := hid_of (show accL 2 L M k = opS 2 L by rw [HE.out, HM.out]; exact op_or (by omega) (by omega) L (by have := HN.out; omega))
      go_wp2
      go_ret2
      exact ⟨ret_s0 (by rw [HF.out]), HI.out.2⟩
set_option maxHeartbeats 1000000 in
set_option maxRecDepth 100000 in
theorem op_3 (b o cap : Nat) (L : List ByteArray) (w : World) (h : SS w b o L) (hL : Small L) (hn : 0 < L.length) (hc : L.length ≤ cap) (hcb : L.length ≤ 140737488351232) :
    Calls Tryd.prog 22 #[.int .i64 3, .slice (some ⟨b, o, none⟩) L.length cap] w fun e w' => e = .returned (.tuple #[.string (mkB (opS 3 L)), .int .i64 0]) ∧ Below w.heap.size w w' := by
  have H1 := hid_of (fun w h => lengths_call b o cap L w h hL hn hc hcb)
  obtain ⟨o', ho, hsl⟩ := tail_run b o L.length cap hn hc
  obtain ⟨n, HN⟩ : ∃ n, Hid (n = L.length) := ⟨_, hid_of rfl⟩
  have HC := hid_of h
  have HO := hid_of ho
  have h0 := h.cell 0 hn
  rw [Nat.add_zero] at h0
  obtain ⟨s0, HS0⟩ : ∃ s0, Hid (s0 = L[0]) := ⟨_, hid_of rfl⟩
  rw [← HS0.out] at h0
  have h0s : s0.size ≤ 140737488351232 := by rw [HS0.out]; exact hL _ (List.getElem_mem hn)
  have HT0 := hid_of (show tx L 0 = txt s0 by rw [tx_in L 0 hn, HS0.out])
  obtain ⟨M, HM⟩ : ∃ M, Hid (M = mx L L.length) := ⟨_, hid_of rfl⟩
  obtain ⟨m, Hm⟩ : ∃ m, Hid (m = mn L L.length) := ⟨_, hid_of rfl⟩
  have hM : M ≤ 140737488351232 := by rw [HM.out]; exact mx_bd hL _
  have hmM : m ≤ M := by rw [HM.out, Hm.out]; exact mn_mx L _ hn
  have hs0M : s0.size ≤ M := by rw [HM.out, ← txt_len, ← HT0.out]; exact mx_le L 0 _ hn
  rw [← HM.out, ← Hm.out] at H1
  have H2 := hid_of (fun w => laid_call s0 M w h0s hM)
  rw [show max s0.size M = M by omega] at H2
  have HAC := hid_of (show pad (txt s0) M = accL 3 L M 0 by rw [accL, HT0.out])
  rw [HAC.out] at H2
  have HAL := hid_of (fun k => accL_len 3 L M (by rw [HM.out]; exact mx_le L 0 _ hn) k)
  have hbw := h.lt
  have HJ := hid_of (fun (wx : World) (g k : Nat) (hk : k + 1 < L.length) (hr : BRow wx g (accL 3 L M k)) => join_3 g M (accL 3 L M k) L[k + 1] wx (HAL.out k) hM (by rw [HM.out, ← tx_len L _ hk]; exact mx_le L _ _ hk) hr)
  rw [← HN.out] at H1 hsl hc hn hcb ⊢
  have e1 : (0 : Int) < (n : Int) := by omega
  have e2 : (1 : Int) ≤ (n : Int) := by omega
  have e3 : ((n : Int) == 0) = false := by rw [beq_eq_false_iff_ne]; omega
  clear h ho
  go_enter Tryd.func22, Tryd.ntmps22
  go_wp2_with fail
  refine (H1.out _ HC.out).mono ?_
  rintro e w1 ⟨rfl, m1, rfl⟩
  go_wp2_with fail
  refine (H2.out _).mono ?_
  rintro e w2 ⟨rfl, r2, b2, l2⟩
  have HI0 := hid_of (And.intro (show BRow w2 w.heap.size _ from r2) (bel (below_drewN w m1) b2 (Nat.le_refl _)))
  clear r2 b2
  go_wp2_with fail
  go_loopw [45] (fun x wr => ∃ k : Nat, k ≤ n - 1 ∧ x = .int .i64 (k : Int) ∧ Hid (BRow wr w.heap.size (accL 3 L M k) ∧ Below w.heap.size w wr)) (fun x _ => n - (intOf x).toNat)
  case atStart => exact ⟨0, Nat.zero_le _, rfl, HI0⟩
  case round =>
    obtain ⟨k, hk, rfl, HI⟩ := hrel
    by_cases hlt : k < n - 1
    · have hkn : k + 1 < L.length := by have := HN.out; omega
      have hct := (HC.out.keep HI.out.2 hbw).cell (k + 1) hkn
      rw [show o + (k + 1) = o' + k by rw [HO.out (by omega)]; omega] at hct
      have HJ1 := hid_of (HJ.out wr w.heap.size k hkn HI.out.1)
      obtain ⟨s, HS⟩ : ∃ s, Hid (s = L[k + 1]) := ⟨_, hid_of rfl⟩
      rw [← HS.out] at hct HJ1
      have HTL := hid_of (show joinN 3 (accL 3 L M k) (txt s) s.size = accL 3 L M (k + 1) by rw [accL, tx_in L _ hkn, HS.out, txt_len])
      rw [HTL.out] at HJ1
      go_wp2_with fail
      refine (HJ1.out).mono ?_
      rintro e w4 ⟨rfl, r4, b4⟩
      have HI2 := hid_of (And.intro r4 (HI.out.2.trans (b4 _ (Nat.le_refl _))))
      clear r4 b4
      go_wp2
      exact ⟨⟨k + 1, by omega, by go_num, HI2⟩, by simp [intOf]; omega⟩
    · have HE := hid_of (show k = L.length - 1 by have := HN.out; omega)
      have hconv := HI.out.1.conv M M (by rw [HAL.out])
      have HF := hid_of (show accL 3 L M k = opS 3 L by rw [HE.out, HM.out]; exact op_or (by omega) (by omega) L (by have := HN.out; omega))
      go_wp2
      go_ret2
      exact ⟨ret_s0 (by rw [HF.out]), HI.out.2⟩
set_option maxHeartbeats 1000000 in
set_option maxRecDepth 100000 in
theorem op_4 (b o cap : Nat) (L : List ByteArray) (w : World) (h : SS w b o L) (hL : Small L) (hn : 0 < L.length) (hc : L.length ≤ cap) (hcb : L.length ≤ 140737488351232) (h1 : L.length ≤ 1) :
    Calls Tryd.prog 22 #[.int .i64 4, .slice (some ⟨b, o, none⟩) L.length cap] w fun e w' => e = .returned (.tuple #[.string (mkB (opS 4 L)), .int .i64 0]) ∧ Below w.heap.size w w' := by
  have H1 := hid_of (fun w h => lengths_call b o cap L w h hL hn hc hcb)
  obtain ⟨o', ho, hsl⟩ := tail_run b o L.length cap hn hc
  obtain ⟨n, HN⟩ : ∃ n, Hid (n = L.length) := ⟨_, hid_of rfl⟩
  have HC := hid_of h
  have HO := hid_of ho
  have h0 := h.cell 0 hn
  rw [Nat.add_zero] at h0
  obtain ⟨s0, HS0⟩ : ∃ s0, Hid (s0 = L[0]) := ⟨_, hid_of rfl⟩
  rw [← HS0.out] at h0
  have h0s : s0.size ≤ 140737488351232 := by rw [HS0.out]; exact hL _ (List.getElem_mem hn)
  have HT0 := hid_of (show tx L 0 = txt s0 by rw [tx_in L 0 hn, HS0.out])
  obtain ⟨M, HM⟩ : ∃ M, Hid (M = mx L L.length) := ⟨_, hid_of rfl⟩
  obtain ⟨m, Hm⟩ : ∃ m, Hid (m = mn L L.length) := ⟨_, hid_of rfl⟩
  have hM : M ≤ 140737488351232 := by rw [HM.out]; exact mx_bd hL _
  have hmM : m ≤ M := by rw [HM.out, Hm.out]; exact mn_mx L _ hn
  have hs0M : s0.size ≤ M := by rw [HM.out, ← txt_len, ← HT0.out]; exact mx_le L 0 _ hn
  rw [← HM.out, ← Hm.out] at H1
  have H2 := hid_of (fun w => laid_call s0 M w h0s hM)
  rw [show max s0.size M = M by omega] at H2
  have HAC := hid_of (show pad (txt s0) M = accL 4 L M 0 by rw [accL, HT0.out])
  rw [HAC.out] at H2
  have HAL := hid_of (fun k => accL_len 4 L M (by rw [HM.out]; exact mx_le L 0 _ hn) k)
  have hbw := h.lt
  rw [← HN.out] at H1 hsl hc hn hcb ⊢
  rw [← HN.out] at h1
  have e1 : (0 : Int) < (n : Int) := by omega
  have e2 : (1 : Int) ≤ (n : Int) := by omega
  have e3 : ((n : Int) == 0) = false := by rw [beq_eq_false_iff_ne]; omega
  have e4 : ¬ ((1 : Int) < (n : Int)) := by omega
  clear h ho
  go_enter Tryd.func22, Tryd.ntmps22
  go_wp2_with fail
  refine (H1.out _ HC.out).mono ?_
  rintro e w1 ⟨rfl, m1, rfl⟩
  go_wp2_with fail
  refine (H2.out _).mono ?_
  rintro e w2 ⟨rfl, r2, b2, l2⟩
  have HI0 := hid_of (And.intro (show BRow w2 w.heap.size _ from r2) (bel (below_drewN w m1) b2 (Nat.le_refl _)))
  clear r2 b2
  go_wp2_with fail
  go_loopw [45] (fun x wr => ∃ k : Nat, k ≤ n - 1 ∧ x = .int .i64 (k : Int) ∧ Hid (BRow wr w.heap.size (accL 4 L M k) ∧ Below w.heap.size w wr)) (fun x _ => n - (intOf x).toNat)
  case atStart => exact ⟨0, Nat.zero_le _, rfl, HI0⟩
  case round =>
    obtain ⟨k, hk, rfl, HI⟩ := hrel
    by_cases hlt : k < n - 1
    · exact absurd hlt (by omega)
    · have HE := hid_of (show k = L.length - 1 by have := HN.out; omega)
      have HI1 := HI.out
      rw [show k = 0 by have := HN.out; have := HE.out; omega] at HI1
      have HI2 := hid_of HI1
      clear HI1 HI
      go_wp2_with fail
      go_loopw [64] (fun x wx => ∃ i : Nat, i ≤ M ∧ x = .int .i64 (i : Int) ∧ Hid (BRow wx w.heap.size (turned (accL 4 L M 0) i) ∧ Below w.heap.size w wx)) (fun x _ => M - (intOf x).toNat)
      case atStart => exact ⟨0, Nat.zero_le _, rfl, HI2⟩
      case round =>
        obtain ⟨i, hi, rfl, HI⟩ := hrel
        by_cases hlt2 : i < M
        · have HLL := hid_of (show (turned (accL 4 L M 0) i).length = M by rw [turned_len, HAL.out])
          have hct := HI.out.1.cell i (by rw [HLL.out]; exact hlt2)
          have hz := HI.out.1.frozen i (by rw [HLL.out]; exact hlt2)
          obtain ⟨c, HCc⟩ : ∃ c, Hid (c = at8 (turned (accL 4 L M 0) i) i) := ⟨_, hid_of rfl⟩
          rw [← HCc.out] at hct
          have hc8 : c < 256 := by rw [HCc.out]; exact at8_lt _ _
          have hx8 : bits .xor .u8 (if IntKind.u8.signed = true then -1 else IntKind.u8.max) (c : Int) = ((255 - c : Nat) : Int) := neg8 hc8
          have R2 := HI.out.1.set i (by rw [HLL.out]; exact hlt2) (255 - c) (by omega)
          have HJ := hid_of (show (turned (accL 4 L M 0) i).set i (UInt8.ofNat (255 - c)) = turned (accL 4 L M 0) (i + 1) by
            rw [turned, HCc.out, turned_at _ _ _ (by rw [HAL.out]; omega), if_neg (by omega)])
          rw [HJ.out] at R2
          have HI3 := hid_of (And.intro R2 (HI.out.2.setCell (p := ⟨w.heap.size, i, none⟩) (Nat.le_refl _) (.int .u8 ((255 - c : Nat) : Int))))
          clear R2 HJ
          go_wp2
          refine ⟨⟨i + 1, hlt2, by go_num, ?_⟩, by simp [intOf]; omega⟩
          first | exact HI3 | (rw [hx8]; exact HI3)
        · have HE2 := hid_of (show i = M by omega)
          have hconv := HI.out.1.conv M M (by rw [turned_len, HAL.out])
          have HF := hid_of (show turned (accL 4 L M 0) i = opS 4 L by rw [HE2.out, HM.out]; exact op_not L (by have := HN.out; omega))
          go_wp2
          go_ret2
          exact ⟨ret_s0 (by rw [HF.out]), HI.out.2⟩
end Go.Proofs.YtdkdjgpeeglbhaaDoor.Opp
