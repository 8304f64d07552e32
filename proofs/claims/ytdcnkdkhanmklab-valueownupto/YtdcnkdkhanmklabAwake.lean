/- awake: one value there and back. -/
import Derived.Test.YtdcnkdkhanmklabEnc
namespace Go.Proofs.Ytdcnkdkhanmklab.Awake
open Go.RowKit Go.Maps
open Go.Proofs.Ytdcnkdkhanmklab.SetMath
open Go.Proofs.Ytdcnkdkhanmklab.BytesMath
open Go.Proofs.Ytdcnkdkhanmklab.FixMath
open Go.Proofs.Ytdcnkdkhanmklab.ValueMath
open Go.Proofs.Ytdcnkdkhanmklab.Base
open Go.Proofs.Ytdcnkdkhanmklab.Vals
open Go.Proofs.Ytdcnkdkhanmklab.Check0
open Go.Proofs.Ytdcnkdkhanmklab.Enc
open Go.Proofs.Ytdcnkdkhanmklab.Dec
set_option linter.unusedVariables false
set_option linter.unusedSimpArgs false

def x0 : Vl := ⟨1, [104, 105], [], [], []⟩
theorem chk0 : chk x0 = 0 := by decide
theorem enc0 : encV x0 = [1, 2, 0, 0, 0, 104, 105] := by
  unfold encV
  rw [if_pos chk0]
  decide
theorem small0 : small x0 := by unfold small x0; decide
theorem dec0 : decV [1, 2, 0, 0, 0, 104, 105, 120] = (x0, 7, 0) := by
  have h := dec_app x0 [120] chk0 small0
  have e : enc x0 = [1, 2, 0, 0, 0, 104, 105] := by have := enc0; unfold encV at this; rwa [if_pos chk0] at this
  rw [e] at h
  unfold decV
  rw [show ([1, 2, 0, 0, 0, 104, 105, 120] : Bs) = [1, 2, 0, 0, 0, 104, 105] ++ [120] from rfl, h]
  rfl
theorem wel0 : Wel x0 := wel_of small0 ⟨by decide, fun y hy => by simp [x0] at hy, fun y hy => by simp [x0] at hy, fun y hy => by simp [x0] at hy⟩
theorem va0 (w : World) : VA w (.agg #[.int .i64 1, .string ⟨#[104, 105]⟩, .slice none 0 0, .slice none 0 0, .slice none 0 0]) x0 := ⟨_, _, _, rfl, SL.nil _ _, FRow.fs_row (FRow.or_nil 0 _), ERow.fs_row (ERow.or_nil 0 _)⟩
theorem add0 : mk [1, 2, 0, 0, 0, 104, 105, 120] = mk [1, 2, 0, 0, 0, 104, 105] ++ ⟨#[120]⟩ := by decide
theorem vn_form {B : Nat} {w : World} {v : Value} {x : Vl} (h : VN B w v x) : ∃ a n c a' n' c' a'' n'' c'', v = .agg #[.int .i64 x.kind, .string (mk x.text), .slice a n c, .slice a' n' c', .slice a'' n'' c''] := by
  obtain ⟨a, b, c, rfl, h1, h2, h3⟩ := h
  obtain ⟨a1, c1, rfl, _⟩ := h1.shape
  obtain ⟨a2, c2, rfl⟩ := shapeFRow h2
  obtain ⟨a3, c3, rfl⟩ := shapeERow h3
  exact ⟨_, _, _, _, _, _, _, _, _, rfl⟩
set_option maxHeartbeats 4000000 in
set_option maxRecDepth 100000 in
theorem awake_call (w : World) : Calls Try.prog 9 #[] w fun e w' => e = .returned (.bool true) ∧ Below w.heap.size w w' := by
  have HE := hid_of (encode_call (va0 w) wel0 small0 (by decide))
  rw [enc0, chk0] at HE
  have HD := hid_of fun W => decode_call [1, 2, 0, 0, 0, 104, 105, 120] W (by decide)
  rw [add0] at HD
  have hsz : (mk [1, 2, 0, 0, 0, 104, 105]).size = 7 := mk_size _
  have l1 : (mk [1, 2, 0, 0, 0, 104, 105]).toList = [1, 2, 0, 0, 0, 104, 105] := mk_list _
  have l2 : (mk [104, 105]).toList = [104, 105] := mk_list _
  have HV : Hid (∀ W w' e, RT [1, 2, 0, 0, 0, 104, 105, 120] W e w' → ∃ a n c a' n' c' a'' n'' c'', e = .returned (.tuple #[.agg #[.int .i64 1, .string (mk [104, 105]), .slice a n c, .slice a' n' c', .slice a'' n'' c''], .int .i64 7, .int .i64 0]) ∧ Below W.heap.size W w') := hid_of fun W w' e h => by
    obtain ⟨v, h1, h2, h3⟩ := h
    rw [dec0] at h1 h2
    obtain ⟨a, n, c, a', n', c', a'', n'', c'', rfl⟩ := vn_form h2
    exact ⟨a, n, c, a', n', c', a'', n'', c'', h1, h3⟩
  generalize mk [1, 2, 0, 0, 0, 104, 105] = S at *
  generalize mk [104, 105] = T at *
  have l3 : (S.toList == [1, 2, 0, 0, 0, 104, 105]) = true := by rw [l1]; rfl
  have l4 : (T.toList == [104, 105]) = true := by rw [l2]; rfl
  go_enter Try.func9, Try.ntmps9
  go_wp2_with fail
  refine HE.out.mono ?_
  rintro e w1 ⟨rfl, b1⟩
  have B1 := hid_of b1
  clear b1 HE
  go_wp2_with fail
  refine (HD.out w1).mono ?_
  rintro e w2 hrt
  obtain ⟨a, n, c, a', n', c', a'', n'', c'', rfl, b2⟩ := HV.out _ _ _ hrt
  have B2 := hid_of (FRow.bel B1.out b2 (Nat.le_refl _))
  clear b2 HD hrt HV
  go_wp2_with fail
  go_ret
  exact ⟨rfl, B2.out.alloc B2.out.size _⟩
end Go.Proofs.Ytdcnkdkhanmklab.Awake
