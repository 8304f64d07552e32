/- The document's Check. -/
import Derived.Test.YtdcnkdkhanmklaaRCheckA
import Derived.Test.YtdcnkdkhanmklaaRCheckB
namespace Go.Proofs.Ytdcnkdkhanmklaa.RCheck
open Go.RowKit Go.Maps
open Go.Proofs.Ytdcnkdkhanmklaa.SetMath
open Go.Proofs.Ytdcnkdkhanmklaa.ValueMath
open Go.Proofs.Ytdcnkdkhanmklaa.Base
open Go.Proofs.Ytdcnkdkhanmklaa.Vals
open Go.Proofs.Ytdcnkdkhanmklaa.Check0
open Go.Proofs.Ytdcnkdkhanmklaa.May
open Go.Proofs.Ytdcnkdkhanmklaa.MayR
open Go.Proofs.Ytdcnkdkhanmklaa.RChk
open Go.Proofs.Ytdcnkdkhanmklaa.RRnk
open Go.Proofs.Ytdcnkdkhanmklaa.RCheck0
set_option linter.unusedVariables false
set_option linter.unusedSimpArgs false

theorem rc_chk {x : Vl} (hk : 1 ≤ x.kind ∧ x.kind ≤ 5) : rcB x.kind (!tOk x.text) (x.text != []) (x.list != []) (x.fields != []) (x.ranked != []) (emp x) (decide (Ris x.list)) (fAll x.fields) (rkd x.ranked) (x.list.all tOk) = chk x := by
  obtain ⟨k, t, l, f, r⟩ := x
  simp only at hk
  have hS : (S ([] : List Bs)).length = 0 := by rw [S_nil]; rfl
  have f0 : fAll [] = true := rfl
  have r0 : rkd [] = true := by unfold rkd rAll enames; rw [List.map_nil, S_nil]; rfl
  have hf : ∀ (h : f ≠ []), fAll f = hashOk f := fun h => fAll_hash (List.length_pos_iff.2 h)
  have hr : ∀ (h : r ≠ []), rkd r = rankOk r := fun h => rkd_rank (List.length_pos_iff.2 h)
  have hh0 : hashOk [] = false := rfl
  have hr0 : rankOk [] = false := by decide
  have t0 : tOk [] = true := rfl
  rw [Check.chk_k (by simp only; exact hk)]
  unfold rcB stray mayBe emp setOk lOk
  simp only
  rcases (show k = 1 ∨ k = 2 ∨ k = 3 ∨ k = 4 ∨ k = 5 by omega) with rfl | rfl | rfl | rfl | rfl
  · by_cases hl : l = [] <;> by_cases hff : f = [] <;> by_cases hrr : r = [] <;> cases ht : tOk t <;> by_cases htt : t = [] <;> simp_all
  · by_cases hl : l = [] <;> by_cases hff : f = [] <;> by_cases hrr : r = [] <;> cases ht : tOk t <;> by_cases htt : t = [] <;> cases ha : l.all tOk <;> simp_all
  · by_cases hl : l = [] <;> by_cases hff : f = [] <;> by_cases hrr : r = [] <;> cases ht : tOk t <;> by_cases htt : t = [] <;> cases ha : hashOk f <;> simp_all
  · by_cases hl : l = [] <;> by_cases hff : f = [] <;> by_cases hrr : r = [] <;> cases ht : tOk t <;> by_cases htt : t = [] <;> cases ha : l.all tOk <;> by_cases hri : Ris l <;> simp_all
  · by_cases hl : l = [] <;> by_cases hff : f = [] <;> by_cases hrr : r = [] <;> cases ht : tOk t <;> by_cases htt : t = [] <;> cases ha : rankOk r <;> simp_all
set_option maxHeartbeats 2000000 in
set_option maxRecDepth 100000 in
theorem rraw0 (k : Int) (hk : k < 1 ∨ 5 < k) (X : ByteArray) (aa ba ca : Option Addr) (an bn cn ac bc cc : Nat) (w : World) :
    Calls Try.prog 12 #[.agg #[.int .i64 k, .string X, .slice aa an ac, .slice ba bn bc, .slice ca cn cc]] w fun e w' => e = .returned (.int .i64 130) ∧ Below w.heap.size w w' := by
  by_cases h1 : k < 1
  · go_enter Try.func12, Try.ntmps12
    go_wp2_with fail
    go_ret
    exact ⟨rfl, FRow.bnew w _⟩
  · have h5 : 5 < k := by omega
    go_enter Try.func12, Try.ntmps12
    go_wp2_with fail
    go_ret
    exact ⟨rfl, FRow.bnew w _⟩
theorem rcheck_call {w : World} {v : Value} {x : Vl} (h : VA w v x) (hf : Wel x) :
    Calls Try.prog 12 #[v] w fun e w' => e = .returned (.int .i64 (chk x)) ∧ Below w.heap.size w w' := by
  obtain ⟨a, b, c, rfl, h1, h2, h3⟩ := h
  obtain ⟨aa, ac, rfl, _, _⟩ := id h1
  obtain ⟨ba, bc, rfl, _, _⟩ := id h2
  obtain ⟨ca, cc, rfl, _, _⟩ := id h3
  by_cases hk : x.kind < 1 ∨ 5 < x.kind
  · have e1 : chk x = 130 := by unfold chk; rw [if_pos hk]
    rw [e1]
    exact rraw0 x.kind hk (mk x.text) aa ba ca _ _ _ ac bc cc w
  · have hl := hf.l
    have hff := hf.f
    unfold FRow.big at hff
    have hk2 : 1 ≤ x.kind ∧ x.kind ≤ 5 := by omega
    rw [← rc_chk hk2]
    have HSL : Hid (∀ W, Below w.heap.size w W → SL TT W (.slice aa x.list.length ac) x.list) := hid_of fun W hW => h1.below hW
    have HEm : Hid (∀ W, Below w.heap.size w W → Calls Try.prog 14 #[.agg #[.int .i64 x.kind, .string (mk x.text), .slice aa x.list.length ac, .slice ba (List.length x.fields) bc, .slice ca (List.length x.ranked) cc]] W fun e w' => e = .returned (.bool (emp x)) ∧ Below W.heap.size W w') := hid_of fun W hW => empty_raw x.kind (mk x.text) aa ba ca _ _ _ ac bc cc W
    have HVa : Hid (∀ W, Below w.heap.size w W → Calls Try.prog 31 #[.slice aa x.list.length ac] W fun e w' => e = .returned (.bool (decide (Ris x.list))) ∧ Below W.heap.size W w') := hid_of fun W hW => (Small.rvalid_call (h1.below hW) (by omega)).mono fun e w' ⟨q1, m, q2⟩ => ⟨q1, by rw [q2]; exact bel_drewN _ _⟩
    have HFo : Hid (∀ W, Below w.heap.size w W → Calls Try.prog 32 #[.slice ba (List.length x.fields) bc] W fun e w' => e = .returned (.bool (fAll x.fields)) ∧ Below W.heap.size W w') := hid_of fun W hW => fields_call (h2.below hW) (by omega) hf.fs
    have HRo : Hid (∀ W, Below w.heap.size w W → Calls Try.prog 33 #[.slice ca (List.length x.ranked) cc] W fun e w' => e = .returned (.bool (rkd x.ranked)) ∧ Below W.heap.size W w') := hid_of fun W hW => ranked_call (h3.below hW) hf.r24 hf.rs
    have k1 : decide ((1048576 : Int) < ((mk x.text).size : Int)) = !tOk x.text := by unfold tOk; rw [mk_size, Bool.eq_iff_iff]; simp; omega
    have k2 : (mk x.text).toList.isEmpty = !(x.text != []) := by rw [mk_list]; cases x.text <;> rfl
    rcases (show x.kind = 1 ∨ x.kind = 2 ∨ x.kind = 3 ∨ x.kind = 4 ∨ x.kind = 5 by omega) with q | q | q | q | q
    · rw [q] at HEm ⊢
      exact RCheckK1.rraw1 (mk x.text) aa ba ca _ _ _ ac bc cc x.list _ _ _ _ _ _ _ _ _ w (by omega) (hid_of rfl) k1 k2 (by rw [nil_len]; simp) (by rw [nil_len]; simp) (by rw [nil_len]; simp) (by rw [nil_len]) (by rw [nil_len]) (by rw [nil_len]) HSL HEm HVa HFo HRo
    · rw [q] at HEm ⊢
      exact RCheckK2.rraw2 (mk x.text) aa ba ca _ _ _ ac bc cc x.list _ _ _ _ _ _ _ _ _ w (by omega) (hid_of rfl) k1 k2 (by rw [nil_len]; simp) (by rw [nil_len]; simp) (by rw [nil_len]; simp) (by rw [nil_len]) (by rw [nil_len]) (by rw [nil_len]) HSL HEm HVa HFo HRo
    · rw [q] at HEm ⊢
      exact RCheckK3.rraw3 (mk x.text) aa ba ca _ _ _ ac bc cc x.list _ _ _ _ _ _ _ _ _ w (by omega) (hid_of rfl) k1 k2 (by rw [nil_len]; simp) (by rw [nil_len]; simp) (by rw [nil_len]; simp) (by rw [nil_len]) (by rw [nil_len]) (by rw [nil_len]) HSL HEm HVa HFo HRo
    · rw [q] at HEm ⊢
      exact RCheckK4.rraw4 (mk x.text) aa ba ca _ _ _ ac bc cc x.list _ _ _ _ _ _ _ _ _ w (by omega) (hid_of rfl) k1 k2 (by rw [nil_len]; simp) (by rw [nil_len]; simp) (by rw [nil_len]; simp) (by rw [nil_len]) (by rw [nil_len]) (by rw [nil_len]) HSL HEm HVa HFo HRo
    · rw [q] at HEm ⊢
      exact RCheckK5.rraw5 (mk x.text) aa ba ca _ _ _ ac bc cc x.list _ _ _ _ _ _ _ _ _ w (by omega) (hid_of rfl) k1 k2 (by rw [nil_len]; simp) (by rw [nil_len]; simp) (by rw [nil_len]; simp) (by rw [nil_len]) (by rw [nil_len]) (by rw [nil_len]) HSL HEm HVa HFo HRo
end Go.Proofs.Ytdcnkdkhanmklaa.RCheck
