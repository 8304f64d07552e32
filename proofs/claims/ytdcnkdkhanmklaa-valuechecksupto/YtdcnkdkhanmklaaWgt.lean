/- Weight: the program's. -/
import Derived.Test.YtdcnkdkhanmklaaEnc0
import Derived.Test.YtdcnkdkhanmklaaCheck
import Derived.Test.YtdcnkdkhanmklaaEnc
namespace Go.Proofs.Ytdcnkdkhanmklaa.Wgt
open Go.RowKit Go.Maps
open Go.Proofs.Ytdcnkdkhanmklaa.SetMath
open Go.Proofs.Ytdcnkdkhanmklaa.BytesMath
open Go.Proofs.Ytdcnkdkhanmklaa.FixMath
open Go.Proofs.Ytdcnkdkhanmklaa.ValueMath
open Go.Proofs.Ytdcnkdkhanmklaa.Base
open Go.Proofs.Ytdcnkdkhanmklaa.Vals
open Go.Proofs.Ytdcnkdkhanmklaa.Builder (Kp)
open Go.Proofs.Ytdcnkdkhanmklaa.Write
open Go.Proofs.Ytdcnkdkhanmklaa.Write2
open Go.Proofs.Ytdcnkdkhanmklaa.Enc0
open Go.Proofs.Ytdcnkdkhanmklaa.Enc
open Go.Proofs.Ytdcnkdkhanmklaa.Check0
open Go.Proofs.Ytdcnkdkhanmklaa.Check
set_option linter.unusedVariables false
set_option linter.unusedSimpArgs false
set_option maxHeartbeats 4000000 in
set_option maxRecDepth 100000 in
theorem wraw1 (X : ByteArray) (aa ba ca : Option Addr) (an bn cn ac bc cc : Nat) (N : Nat) (w : World) (hN : N + 1 ≤ 140737488355328)
    (HCk : Hid (∀ W, Below w.heap.size w W → Calls Try.prog 30 #[.agg #[.int .i64 1, .string X, .slice aa an ac, .slice ba bn bc, .slice ca cn cc]] W fun e w' => e = .returned (.tuple #[.iface 97 (.string X), .int .i64 0]) ∧ Below W.heap.size W w'))
    (HWt : Hid (∀ W, Below w.heap.size w W → Calls Try.prog 84 #[.string X] W fun e w' => e = .returned (.int .i64 (N : Int)) ∧ Below W.heap.size W w')) :
    Calls Try.prog 15 #[.agg #[.int .i64 1, .string X, .slice aa an ac, .slice ba bn bc, .slice ca cn cc]] w fun e w' => e = .returned (.int .i64 ((N + 1 : Nat) : Int)) ∧ Below w.heap.size w w' := by
  obtain ⟨V, hV⟩ : ∃ V, V = w.alloc (.cells #[.int .i64 1, .string X, .slice aa an ac, .slice ba bn bc, .slice ca cn cc] 26) := ⟨_, rfl⟩
  have bV : Below w.heap.size w V := by rw [hV]; exact FRow.bnew w _
  have HV := hid_of hV
  have HB := hid_of bV
  have n1 : IntKind.i64.wrap (1 + (N : Int)) = ((N + 1 : Nat) : Int) := by rw [show ((N + 1 : Nat) : Int) = 1 + (N : Int) by omega]; exact IntWalk.i64_in _ (by omega)
  obtain ⟨M, hM⟩ : ∃ M, M = N + 1 := ⟨_, rfl⟩
  rw [← hM] at n1 ⊢
  clear bV hV hM
  go_enter Try.func15, Try.ntmps15
  go_wp2_with fail
  rw [← HV.out]
  refine (HCk.out V HB.out).mono ?_
  rintro e w1 ⟨rfl, b1⟩
  have BB := hid_of (FRow.bel HB.out b1 (Nat.le_refl _))
  clear b1 HCk
  go_wp2_with fail
  refine (HWt.out w1 BB.out).mono ?_
  rintro e w2 ⟨rfl, b2⟩
  have B2 := hid_of (FRow.bel BB.out b2 (Nat.le_refl _))
  clear b2 HWt
  go_wp2_with fail
  go_ret
  exact ⟨rfl, B2.out⟩
set_option maxHeartbeats 4000000 in
set_option maxRecDepth 100000 in
theorem wraw2 (X : ByteArray) (aa ba ca : Option Addr) (an bn cn ac bc cc : Nat) (N : Nat) (w : World) (hN : N + 1 ≤ 140737488355328)
    (HCk : Hid (∀ W, Below w.heap.size w W → Calls Try.prog 30 #[.agg #[.int .i64 2, .string X, .slice aa an ac, .slice ba bn bc, .slice ca cn cc]] W fun e w' => e = .returned (.tuple #[.iface 98 (.slice aa an ac), .int .i64 0]) ∧ Below W.heap.size W w'))
    (HWt : Hid (∀ W, Below w.heap.size w W → Calls Try.prog 90 #[.slice aa an ac] W fun e w' => e = .returned (.int .i64 (N : Int)) ∧ Below W.heap.size W w')) :
    Calls Try.prog 15 #[.agg #[.int .i64 2, .string X, .slice aa an ac, .slice ba bn bc, .slice ca cn cc]] w fun e w' => e = .returned (.int .i64 ((N + 1 : Nat) : Int)) ∧ Below w.heap.size w w' := by
  obtain ⟨V, hV⟩ : ∃ V, V = w.alloc (.cells #[.int .i64 2, .string X, .slice aa an ac, .slice ba bn bc, .slice ca cn cc] 26) := ⟨_, rfl⟩
  have bV : Below w.heap.size w V := by rw [hV]; exact FRow.bnew w _
  have HV := hid_of hV
  have HB := hid_of bV
  have n1 : IntKind.i64.wrap (1 + (N : Int)) = ((N + 1 : Nat) : Int) := by rw [show ((N + 1 : Nat) : Int) = 1 + (N : Int) by omega]; exact IntWalk.i64_in _ (by omega)
  obtain ⟨M, hM⟩ : ∃ M, M = N + 1 := ⟨_, rfl⟩
  rw [← hM] at n1 ⊢
  clear bV hV hM
  go_enter Try.func15, Try.ntmps15
  go_wp2_with fail
  rw [← HV.out]
  refine (HCk.out V HB.out).mono ?_
  rintro e w1 ⟨rfl, b1⟩
  have BB := hid_of (FRow.bel HB.out b1 (Nat.le_refl _))
  clear b1 HCk
  go_wp2_with fail
  refine (HWt.out w1 BB.out).mono ?_
  rintro e w2 ⟨rfl, b2⟩
  have B2 := hid_of (FRow.bel BB.out b2 (Nat.le_refl _))
  clear b2 HWt
  go_wp2_with fail
  go_ret
  exact ⟨rfl, B2.out⟩
set_option maxHeartbeats 4000000 in
set_option maxRecDepth 100000 in
theorem wraw3 (X : ByteArray) (aa ba ca : Option Addr) (an bn cn ac bc cc : Nat) (N : Nat) (w : World) (hN : N + 1 ≤ 140737488355328)
    (HCk : Hid (∀ W, Below w.heap.size w W → Calls Try.prog 30 #[.agg #[.int .i64 3, .string X, .slice aa an ac, .slice ba bn bc, .slice ca cn cc]] W fun e w' => e = .returned (.tuple #[.iface 99 (.slice ba bn bc), .int .i64 0]) ∧ Below W.heap.size W w'))
    (HWt : Hid (∀ W, Below w.heap.size w W → Calls Try.prog 93 #[.slice ba bn bc] W fun e w' => e = .returned (.int .i64 (N : Int)) ∧ Below W.heap.size W w')) :
    Calls Try.prog 15 #[.agg #[.int .i64 3, .string X, .slice aa an ac, .slice ba bn bc, .slice ca cn cc]] w fun e w' => e = .returned (.int .i64 ((N + 1 : Nat) : Int)) ∧ Below w.heap.size w w' := by
  obtain ⟨V, hV⟩ : ∃ V, V = w.alloc (.cells #[.int .i64 3, .string X, .slice aa an ac, .slice ba bn bc, .slice ca cn cc] 26) := ⟨_, rfl⟩
  have bV : Below w.heap.size w V := by rw [hV]; exact FRow.bnew w _
  have HV := hid_of hV
  have HB := hid_of bV
  have n1 : IntKind.i64.wrap (1 + (N : Int)) = ((N + 1 : Nat) : Int) := by rw [show ((N + 1 : Nat) : Int) = 1 + (N : Int) by omega]; exact IntWalk.i64_in _ (by omega)
  obtain ⟨M, hM⟩ : ∃ M, M = N + 1 := ⟨_, rfl⟩
  rw [← hM] at n1 ⊢
  clear bV hV hM
  go_enter Try.func15, Try.ntmps15
  go_wp2_with fail
  rw [← HV.out]
  refine (HCk.out V HB.out).mono ?_
  rintro e w1 ⟨rfl, b1⟩
  have BB := hid_of (FRow.bel HB.out b1 (Nat.le_refl _))
  clear b1 HCk
  go_wp2_with fail
  refine (HWt.out w1 BB.out).mono ?_
  rintro e w2 ⟨rfl, b2⟩
  have B2 := hid_of (FRow.bel BB.out b2 (Nat.le_refl _))
  clear b2 HWt
  go_wp2_with fail
  go_ret
  exact ⟨rfl, B2.out⟩
set_option maxHeartbeats 4000000 in
set_option maxRecDepth 100000 in
theorem wraw4 (X : ByteArray) (aa ba ca : Option Addr) (an bn cn ac bc cc : Nat) (N : Nat) (w : World) (hN : N + 1 ≤ 140737488355328)
    (HCk : Hid (∀ W, Below w.heap.size w W → Calls Try.prog 30 #[.agg #[.int .i64 4, .string X, .slice aa an ac, .slice ba bn bc, .slice ca cn cc]] W fun e w' => e = .returned (.tuple #[.iface 100 (.slice aa an ac), .int .i64 0]) ∧ Below W.heap.size W w'))
    (HWt : Hid (∀ W, Below w.heap.size w W → Calls Try.prog 97 #[.slice aa an ac] W fun e w' => e = .returned (.int .i64 (N : Int)) ∧ Below W.heap.size W w')) :
    Calls Try.prog 15 #[.agg #[.int .i64 4, .string X, .slice aa an ac, .slice ba bn bc, .slice ca cn cc]] w fun e w' => e = .returned (.int .i64 ((N + 1 : Nat) : Int)) ∧ Below w.heap.size w w' := by
  obtain ⟨V, hV⟩ : ∃ V, V = w.alloc (.cells #[.int .i64 4, .string X, .slice aa an ac, .slice ba bn bc, .slice ca cn cc] 26) := ⟨_, rfl⟩
  have bV : Below w.heap.size w V := by rw [hV]; exact FRow.bnew w _
  have HV := hid_of hV
  have HB := hid_of bV
  have n1 : IntKind.i64.wrap (1 + (N : Int)) = ((N + 1 : Nat) : Int) := by rw [show ((N + 1 : Nat) : Int) = 1 + (N : Int) by omega]; exact IntWalk.i64_in _ (by omega)
  obtain ⟨M, hM⟩ : ∃ M, M = N + 1 := ⟨_, rfl⟩
  rw [← hM] at n1 ⊢
  clear bV hV hM
  go_enter Try.func15, Try.ntmps15
  go_wp2_with fail
  rw [← HV.out]
  refine (HCk.out V HB.out).mono ?_
  rintro e w1 ⟨rfl, b1⟩
  have BB := hid_of (FRow.bel HB.out b1 (Nat.le_refl _))
  clear b1 HCk
  go_wp2_with fail
  refine (HWt.out w1 BB.out).mono ?_
  rintro e w2 ⟨rfl, b2⟩
  have B2 := hid_of (FRow.bel BB.out b2 (Nat.le_refl _))
  clear b2 HWt
  go_wp2_with fail
  go_ret
  exact ⟨rfl, B2.out⟩
set_option maxHeartbeats 4000000 in
set_option maxRecDepth 100000 in
theorem wraw5 (X : ByteArray) (aa ba ca : Option Addr) (an bn cn ac bc cc : Nat) (N : Nat) (w : World) (hN : N + 1 ≤ 140737488355328)
    (HCk : Hid (∀ W, Below w.heap.size w W → Calls Try.prog 30 #[.agg #[.int .i64 5, .string X, .slice aa an ac, .slice ba bn bc, .slice ca cn cc]] W fun e w' => e = .returned (.tuple #[.iface 101 (.slice ca cn cc), .int .i64 0]) ∧ Below W.heap.size W w'))
    (HWt : Hid (∀ W, Below w.heap.size w W → Calls Try.prog 100 #[.slice ca cn cc] W fun e w' => e = .returned (.int .i64 (N : Int)) ∧ Below W.heap.size W w')) :
    Calls Try.prog 15 #[.agg #[.int .i64 5, .string X, .slice aa an ac, .slice ba bn bc, .slice ca cn cc]] w fun e w' => e = .returned (.int .i64 ((N + 1 : Nat) : Int)) ∧ Below w.heap.size w w' := by
  obtain ⟨V, hV⟩ : ∃ V, V = w.alloc (.cells #[.int .i64 5, .string X, .slice aa an ac, .slice ba bn bc, .slice ca cn cc] 26) := ⟨_, rfl⟩
  have bV : Below w.heap.size w V := by rw [hV]; exact FRow.bnew w _
  have HV := hid_of hV
  have HB := hid_of bV
  have n1 : IntKind.i64.wrap (1 + (N : Int)) = ((N + 1 : Nat) : Int) := by rw [show ((N + 1 : Nat) : Int) = 1 + (N : Int) by omega]; exact IntWalk.i64_in _ (by omega)
  obtain ⟨M, hM⟩ : ∃ M, M = N + 1 := ⟨_, rfl⟩
  rw [← hM] at n1 ⊢
  clear bV hV hM
  go_enter Try.func15, Try.ntmps15
  go_wp2_with fail
  rw [← HV.out]
  refine (HCk.out V HB.out).mono ?_
  rintro e w1 ⟨rfl, b1⟩
  have BB := hid_of (FRow.bel HB.out b1 (Nat.le_refl _))
  clear b1 HCk
  go_wp2_with fail
  refine (HWt.out w1 BB.out).mono ?_
  rintro e w2 ⟨rfl, b2⟩
  have B2 := hid_of (FRow.bel BB.out b2 (Nat.le_refl _))
  clear b2 HWt
  go_wp2_with fail
  go_ret
  exact ⟨rfl, B2.out⟩
set_option maxHeartbeats 4000000 in
set_option maxRecDepth 100000 in
theorem wraw0 (k : Int) (X : ByteArray) (aa ba ca : Option Addr) (an bn cn ac bc cc : Nat) (E : Int) (hE : E ≠ 0) (w : World)
    (HCk : Hid (∀ W, Below w.heap.size w W → Calls Try.prog 30 #[.agg #[.int .i64 k, .string X, .slice aa an ac, .slice ba bn bc, .slice ca cn cc]] W fun e w' => e = .returned (.tuple #[.nilIface, .int .i64 E]) ∧ Below W.heap.size W w')) :
    Calls Try.prog 15 #[.agg #[.int .i64 k, .string X, .slice aa an ac, .slice ba bn bc, .slice ca cn cc]] w fun e w' => e = .returned (.int .i64 0) ∧ Below w.heap.size w w' := by
  obtain ⟨V, hV⟩ : ∃ V, V = w.alloc (.cells #[.int .i64 k, .string X, .slice aa an ac, .slice ba bn bc, .slice ca cn cc] 26) := ⟨_, rfl⟩
  have bV : Below w.heap.size w V := by rw [hV]; exact FRow.bnew w _
  have HV := hid_of hV
  have HB := hid_of bV
  have e1 : (E != 0) = true := by simpa using hE
  clear bV hV hE
  go_enter Try.func15, Try.ntmps15
  go_wp2_with fail
  rw [← HV.out]
  refine (HCk.out V HB.out).mono ?_
  rintro e w1 ⟨rfl, b1⟩
  have BB := hid_of (FRow.bel HB.out b1 (Nat.le_refl _))
  clear b1 HCk
  go_wp2_with fail
  go_ret
  exact ⟨rfl, BB.out⟩

theorem weight_call {w : World} {v : Value} {x : Vl} (h : VA w v x) (hf : Wel x) (hs : small x) (hlen : (enc x).length ≤ 140737488355328) :
    Calls Try.prog 15 #[v] w fun e w' => e = .returned (.int .i64 ((encV x).length : Nat)) ∧ Below w.heap.size w w' := by
  obtain ⟨a, b, c, rfl, h1, h2, h3⟩ := h
  have HC := fun (W : World) (hW : Below w.heap.size w W) => checked_call (h1.below hW) (h2.below hW) (h3.below hW) hf
  by_cases h0 : chk x = 0
  · have hE : encV x = enc x := by unfold encV; rw [if_pos h0]
    rw [hE]
    obtain ⟨k1, k2, hst, hm⟩ := chk_zero h0
    have hl := hf.l
    have hbl : (encB x).length + 1 ≤ 140737488355328 := by unfold enc at hlen; simpa using hlen
    simp only [ckC, h0, if_true] at HC
    obtain ⟨s1, s2, s3⟩ := hs
    unfold mayBe at hm
    rcases kind5 k1 k2 with q | q | q | q | q
    · rw [if_pos q] at hm
      have eB : encB x = encT x.text := by unfold encB; rw [if_pos q]
      have eE : enc x = [1] ++ encT x.text := by unfold enc; rw [eB, q]; rfl
      rw [eB] at hbl
      rw [eE, List.length_append, List.length_singleton, Nat.add_comm 1]
      have HCk : Hid (∀ W, Below w.heap.size w W → Calls Try.prog 30 #[.agg #[.int .i64 1, .string (mk x.text), a, b, c]] W fun e w' => e = .returned (.tuple #[.iface 97 (.string (mk x.text)), .int .i64 0]) ∧ Below W.heap.size W w') := hid_of fun W hW => by
        have := HC W hW
        rw [q] at this
        exact this
      have HWt : Hid (∀ W, Below w.heap.size w W → Calls Try.prog 84 #[.string (mk x.text)] W fun e w' => e = .returned (.int .i64 ((encT x.text).length : Nat)) ∧ Below W.heap.size W w') := hid_of fun W hW => (twt_call x.text W hf.t).mono fun e w' ⟨p1, p2⟩ => ⟨p1, by rw [p2]; exact Below.refl _ _⟩
      rw [q]
      obtain ⟨aa, ac, rfl, _, _⟩ := id h1
      obtain ⟨ba, bc, rfl, _, _⟩ := id h2
      obtain ⟨ca, cc, rfl, _, _⟩ := id h3
      exact wraw1 (mk x.text) aa ba ca _ _ _ ac bc cc (encT x.text).length w hbl HCk HWt
    · rw [if_neg (by omega), if_pos q] at hm
      have eB : encB x = encC encT x.list := by unfold encB; rw [if_neg (by omega), if_pos (by omega)]
      have eE : enc x = [2] ++ encC encT x.list := by unfold enc; rw [eB, q]; rfl
      rw [eB] at hbl
      rw [eE, List.length_append, List.length_singleton, Nat.add_comm 1]
      have HCk : Hid (∀ W, Below w.heap.size w W → Calls Try.prog 30 #[.agg #[.int .i64 2, .string (mk x.text), a, b, c]] W fun e w' => e = .returned (.tuple #[.iface 98 (a), .int .i64 0]) ∧ Below W.heap.size W w') := hid_of fun W hW => by
        have := HC W hW
        rw [q] at this
        exact this
      have HWt : Hid (∀ W, Below w.heap.size w W → Calls Try.prog 90 #[a] W fun e w' => e = .returned (.int .i64 ((encC encT x.list).length : Nat)) ∧ Below W.heap.size W w') := hid_of fun W hW => (lwt_call x.list a W (h1.below hW) (by omega) (by omega)).mono fun e w' ⟨p1, p2⟩ => ⟨p1, by rw [p2]; exact Below.refl _ _⟩
      rw [q]
      obtain ⟨aa, ac, rfl, _, _⟩ := id h1
      obtain ⟨ba, bc, rfl, _, _⟩ := id h2
      obtain ⟨ca, cc, rfl, _, _⟩ := id h3
      exact wraw2 (mk x.text) aa ba ca _ _ _ ac bc cc (encC encT x.list).length w hbl HCk HWt
    · rw [if_neg (by omega), if_neg (by omega), if_pos q] at hm
      have eB : encB x = encC encF x.fields := by unfold encB; rw [if_neg (by omega), if_neg (by omega), if_pos q]
      have eE : enc x = [3] ++ encC encF x.fields := by unfold enc; rw [eB, q]; rfl
      rw [eB] at hbl
      rw [eE, List.length_append, List.length_singleton, Nat.add_comm 1]
      have HCk : Hid (∀ W, Below w.heap.size w W → Calls Try.prog 30 #[.agg #[.int .i64 3, .string (mk x.text), a, b, c]] W fun e w' => e = .returned (.tuple #[.iface 99 (b), .int .i64 0]) ∧ Below W.heap.size W w') := hid_of fun W hW => by
        have := HC W hW
        rw [q] at this
        exact this
      have HWt : Hid (∀ W, Below w.heap.size w W → Calls Try.prog 93 #[b] W fun e w' => e = .returned (.int .i64 ((encC encF x.fields).length : Nat)) ∧ Below W.heap.size W w') := hid_of fun W hW => hwt_call x.fields b W (h2.below hW) (by omega) (by omega)
      rw [q]
      obtain ⟨aa, ac, rfl, _, _⟩ := id h1
      obtain ⟨ba, bc, rfl, _, _⟩ := id h2
      obtain ⟨ca, cc, rfl, _, _⟩ := id h3
      exact wraw3 (mk x.text) aa ba ca _ _ _ ac bc cc (encC encF x.fields).length w hbl HCk HWt
    · rw [if_neg (by omega), if_neg (by omega), if_neg (by omega), if_pos q] at hm
      have eB : encB x = encC encT x.list := by unfold encB; rw [if_neg (by omega), if_pos (by omega)]
      have eE : enc x = [4] ++ encC encT x.list := by unfold enc; rw [eB, q]; rfl
      rw [eB] at hbl
      rw [eE, List.length_append, List.length_singleton, Nat.add_comm 1]
      have HCk : Hid (∀ W, Below w.heap.size w W → Calls Try.prog 30 #[.agg #[.int .i64 4, .string (mk x.text), a, b, c]] W fun e w' => e = .returned (.tuple #[.iface 100 (a), .int .i64 0]) ∧ Below W.heap.size W w') := hid_of fun W hW => by
        have := HC W hW
        rw [q] at this
        exact this
      have HWt : Hid (∀ W, Below w.heap.size w W → Calls Try.prog 97 #[a] W fun e w' => e = .returned (.int .i64 ((encC encT x.list).length : Nat)) ∧ Below W.heap.size W w') := hid_of fun W hW => (swt_call x.list a W (h1.below hW) (by omega) (by omega)).mono fun e w' ⟨p1, p2⟩ => ⟨p1, by rw [p2]; exact Below.refl _ _⟩
      rw [q]
      obtain ⟨aa, ac, rfl, _, _⟩ := id h1
      obtain ⟨ba, bc, rfl, _, _⟩ := id h2
      obtain ⟨ca, cc, rfl, _, _⟩ := id h3
      exact wraw4 (mk x.text) aa ba ca _ _ _ ac bc cc (encC encT x.list).length w hbl HCk HWt
    · rw [if_neg (by omega), if_neg (by omega), if_neg (by omega), if_neg (by omega)] at hm
      have eB : encB x = encC encE x.ranked := by unfold encB; rw [if_neg (by omega), if_neg (by omega), if_neg (by omega)]
      have eE : enc x = [5] ++ encC encE x.ranked := by unfold enc; rw [eB, q]; rfl
      rw [eB] at hbl
      rw [eE, List.length_append, List.length_singleton, Nat.add_comm 1]
      have HCk : Hid (∀ W, Below w.heap.size w W → Calls Try.prog 30 #[.agg #[.int .i64 5, .string (mk x.text), a, b, c]] W fun e w' => e = .returned (.tuple #[.iface 101 (c), .int .i64 0]) ∧ Below W.heap.size W w') := hid_of fun W hW => by
        have := HC W hW
        rw [q] at this
        exact this
      have HWt : Hid (∀ W, Below w.heap.size w W → Calls Try.prog 100 #[c] W fun e w' => e = .returned (.int .i64 ((encC encE x.ranked).length : Nat)) ∧ Below W.heap.size W w') := hid_of fun W hW => rwt_call x.ranked c W (h3.below hW) (by omega) (by omega)
      rw [q]
      obtain ⟨aa, ac, rfl, _, _⟩ := id h1
      obtain ⟨ba, bc, rfl, _, _⟩ := id h2
      obtain ⟨ca, cc, rfl, _, _⟩ := id h3
      exact wraw5 (mk x.text) aa ba ca _ _ _ ac bc cc (encC encE x.ranked).length w hbl HCk HWt
  · have hE : encV x = [] := by unfold encV; rw [if_neg h0]
    rw [hE]
    have HCk : Hid (∀ W, Below w.heap.size w W → Calls Try.prog 30 #[.agg #[.int .i64 x.kind, .string (mk x.text), a, b, c]] W fun e w' => e = .returned (.tuple #[.nilIface, .int .i64 (chk x)]) ∧ Below W.heap.size W w') := hid_of fun W hW => by
      have := HC W hW
      unfold ckC at this
      rw [if_neg h0] at this
      exact this
    obtain ⟨aa, ac, rfl, _, _⟩ := id h1
    obtain ⟨ba, bc, rfl, _, _⟩ := id h2
    obtain ⟨ca, cc, rfl, _, _⟩ := id h3
    exact wraw0 x.kind (mk x.text) aa ba ca _ _ _ ac bc cc (chk x) h0 w HCk
end Go.Proofs.Ytdcnkdkhanmklaa.Wgt
