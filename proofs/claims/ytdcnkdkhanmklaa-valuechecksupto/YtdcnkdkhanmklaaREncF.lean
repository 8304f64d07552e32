/- The document's Encode, whole. -/
import Derived.Test.YtdcnkdkhanmklaaREnc3
import Derived.Test.YtdcnkdkhanmklaaREnc5
namespace Go.Proofs.Ytdcnkdkhanmklaa.REncF
open Go.RowKit Go.Maps
open Go.Proofs.Ytdcnkdkhanmklaa.SetMath
open Go.Proofs.Ytdcnkdkhanmklaa.BytesMath
open Go.Proofs.Ytdcnkdkhanmklaa.FixMath
open Go.Proofs.Ytdcnkdkhanmklaa.ValueMath
open Go.Proofs.Ytdcnkdkhanmklaa.Base
open Go.Proofs.Ytdcnkdkhanmklaa.Vals
open Go.Proofs.Ytdcnkdkhanmklaa.Check0
open Go.Proofs.Ytdcnkdkhanmklaa.Enc
set_option linter.unusedVariables false
set_option linter.unusedSimpArgs false
set_option maxHeartbeats 4000000 in
set_option maxRecDepth 100000 in
theorem rn0 (k : Int) (X : ByteArray) (aa ba ca : Option Addr) (an bn cn ac bc cc : Nat) (E : Int) (hE : E ≠ 0) (w : World)
    (HCk : Hid (∀ W, Below w.heap.size w W → Calls Try.prog 12 #[.agg #[.int .i64 k, .string X, .slice aa an ac, .slice ba bn bc, .slice ca cn cc]] W fun e w' => e = .returned (.int .i64 E) ∧ Below W.heap.size W w')) :
    Calls Try.prog 10 #[.agg #[.int .i64 k, .string X, .slice aa an ac, .slice ba bn bc, .slice ca cn cc]] w fun e w' => e = .returned (.tuple #[.string ⟨#[]⟩, .int .i64 E]) ∧ Below w.heap.size w w' := by
  obtain ⟨V, hV⟩ : ∃ V, V = w.alloc (.cells #[.int .i64 k, .string X, .slice aa an ac, .slice ba bn bc, .slice ca cn cc] 26) := ⟨_, rfl⟩
  have bV : Below w.heap.size w V := by rw [hV]; exact FRow.bnew w _
  have HV := hid_of hV
  have HB := hid_of bV
  have e1 : (E != 0) = true := by simpa using hE
  clear bV hV hE
  go_enter Try.func10, Try.ntmps10
  go_wp2_with fail
  rw [← HV.out]
  refine (HCk.out V HB.out).mono ?_
  rintro e w1 ⟨rfl, b1⟩
  have BB := hid_of (FRow.bel HB.out b1 (Nat.le_refl _))
  clear b1 HCk
  go_wp2_with fail
  go_ret2
  exact ⟨rfl, BB.out⟩
theorem rencode_call {w : World} {v : Value} {x : Vl} (h : VA w v x) (hf : Wel x) (hs : small x) (hlen : (enc x).length ≤ 140737488355328) :
    Calls Try.prog 10 #[v] w fun e w' => e = .returned (.tuple #[.string (mk (encV x)), .int .i64 (chk x)]) ∧ Below w.heap.size w w' := by
  have HC := fun (W : World) (hW : Below w.heap.size w W) => RCheck.rcheck_call (h.below hW) hf
  obtain ⟨a, b, c, rfl, h1, h2, h3⟩ := h
  obtain ⟨aa, ac, rfl, _, _⟩ := id h1
  obtain ⟨ba, bc, rfl, _, _⟩ := id h2
  obtain ⟨ca, cc, rfl, _, _⟩ := id h3
  by_cases h0 : chk x = 0
  · have hE : encV x = enc x := by unfold encV; rw [if_pos h0]
    rw [hE, h0]
    rw [h0] at HC
    obtain ⟨k1, k2, hst, hm⟩ := chk_zero h0
    have hbl : 1 + (encB x).length ≤ 140737488355328 := by unfold enc at hlen; simp at hlen; omega
    obtain ⟨s1, s2, s3⟩ := hs
    unfold mayBe at hm
    rcases kind5 k1 k2 with q | q | q | q | q
    · rw [if_pos q] at hm
      have eB : encB x = encT x.text := by unfold encB; rw [if_pos q]
      have eE : enc x = [1] ++ encT x.text := by unfold enc; rw [eB, q]; rfl
      rw [eB] at hbl
      rw [q] at HC ⊢
      have HCk := hid_of HC
      exact REnc2.rn1 (mk x.text) aa ba ca _ _ _ ac bc cc w x.text (enc x) rfl eE (by have := of_decide_eq_true hm; omega) HCk
    · rw [if_neg (by omega), if_pos q] at hm
      have eB : encB x = encC encT x.list := by unfold encB; rw [if_neg (by omega), if_pos (by omega)]
      have eE : enc x = [2] ++ encC encT x.list := by unfold enc; rw [eB, q]; rfl
      rw [eB] at hbl
      rw [q] at HC ⊢
      have HCk := hid_of HC
      exact REnc2.rn2 (mk x.text) aa ba ca _ _ _ ac bc cc w x.list (enc x) eE s1 (hid_of rfl) (hid_of fun W hW => h1.below hW) (fun t ht => by have := lOk_all hm t ht; omega) hbl HCk
    · rw [if_neg (by omega), if_neg (by omega), if_pos q] at hm
      have eB : encB x = encC encF x.fields := by unfold encB; rw [if_neg (by omega), if_neg (by omega), if_pos q]
      have eE : enc x = [3] ++ encC encF x.fields := by unfold enc; rw [eB, q]; rfl
      rw [eB] at hbl
      rw [q] at HC ⊢
      have HCk := hid_of HC
      exact REnc3.rn3 (mk x.text) aa ba ca _ _ _ ac bc cc w x.fields (enc x) eE s2 (hid_of rfl) (hid_of fun W hW => h2.below hW) (hash_len hm) hbl HCk
    · rw [if_neg (by omega), if_neg (by omega), if_neg (by omega), if_pos q] at hm
      have eB : encB x = encC encT x.list := by unfold encB; rw [if_neg (by omega), if_pos (by omega)]
      have eE : enc x = [4] ++ encC encT x.list := by unfold enc; rw [eB, q]; rfl
      rw [eB] at hbl
      rw [q] at HC ⊢
      have HCk := hid_of HC
      exact REnc2.rn4 (mk x.text) aa ba ca _ _ _ ac bc cc w x.list (enc x) eE s1 (hid_of rfl) (hid_of fun W hW => h1.below hW) (fun t ht => by have := lOk_all (set_l hm) t ht; omega) hbl HCk
    · rw [if_neg (by omega), if_neg (by omega), if_neg (by omega), if_neg (by omega)] at hm
      have eB : encB x = encC encE x.ranked := by unfold encB; rw [if_neg (by omega), if_neg (by omega), if_neg (by omega)]
      have eE : enc x = [5] ++ encC encE x.ranked := by unfold enc; rw [eB, q]; rfl
      rw [eB] at hbl
      rw [q] at HC ⊢
      have HCk := hid_of HC
      exact REnc5.rn5 (mk x.text) aa ba ca _ _ _ ac bc cc w x.ranked (enc x) eE s3 (hid_of rfl) (hid_of fun W hW => h3.below hW) (fun t ht => (rank_len hm t ht).1) hbl HCk
  · have hE : encV x = [] := by unfold encV; rw [if_neg h0]
    rw [hE]
    exact rn0 x.kind (mk x.text) aa ba ca _ _ _ ac bc cc (chk x) h0 w (hid_of HC)
end Go.Proofs.Ytdcnkdkhanmklaa.REncF
