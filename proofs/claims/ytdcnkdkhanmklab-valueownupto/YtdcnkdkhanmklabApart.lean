/- The law ValueApart. -/
import Derived.Test.YtdcnkdkhanmklabAwake
import Derived.Test.YtdcnkdkhanmklabSame
import Derived.Test.YtdcnkdkhanmklabRSame
namespace Go.Proofs.Ytdcnkdkhanmklab.Apart
open Go.RowKit Go.Maps
open Go.Proofs.Ytdcnkdkhanmklab.SetMath
open Go.Proofs.Ytdcnkdkhanmklab.BytesMath
open Go.Proofs.Ytdcnkdkhanmklab.FixMath
open Go.Proofs.Ytdcnkdkhanmklab.ValueMath
open Go.Proofs.Ytdcnkdkhanmklab.Base
open Go.Proofs.Ytdcnkdkhanmklab.Vals
open Go.Proofs.Ytdcnkdkhanmklab.Check0
open Go.Proofs.Ytdcnkdkhanmklab.Enc
open Go.Proofs.Ytdcnkdkhanmklab.Dec
open Go.Proofs.Ytdcnkdkhanmklab.Rdr (cut_to)
set_option linter.unusedVariables false
set_option linter.unusedSimpArgs false
structure Nc (x : Vl) : Prop where
  wel : Wel x
  sm : small x
  len : (enc x).length ≤ 70368744177664
theorem decV_none {s : Bs} (h : decS s = none) : decV s = (zV, 0, 132) := by unfold decV; rw [h]
theorem rt_none {s : Bs} (h : decS s = none) {W : World} {e : Ending} {w' : World} (hr : RT s W e w') : ∃ k t a n c a' n' c' a'' n'' c'', e = .returned (.tuple #[.agg #[.int .i64 k, .string t, .slice a n c, .slice a' n' c', .slice a'' n'' c''], .int .i64 0, .int .i64 132]) ∧ Below W.heap.size W w' := by
  obtain ⟨v, h1, h2, h3⟩ := hr
  rw [decV_none h] at h1 h2
  obtain ⟨k, t, a, n, c, a', n', c', a'', n'', c'', rfl⟩ := vn_shape h2
  exact ⟨k, t, a, n, c, a', n', c', a'', n'', c'', h1, h3⟩
theorem pre_ne {a b : Vl} (ha : chk a = 0) (hb : chk b = 0) (na : Nc a) (nb : Nc b) (hne : a ≠ b) (hl : (enc a).length ≤ (enc b).length) : ((enc b).take (enc a).length == enc a) = false := by
  cases e : ((enc b).take (enc a).length == enc a) with
  | false => rfl
  | true =>
    have h1 : (enc b).take (enc a).length = enc a := eq_of_beq e
    have h2 : enc b = enc a ++ (enc b).drop (enc a).length := by
      conv => lhs; rw [← List.take_append_drop (enc a).length (enc b), h1]
    exact absurd (enc_begin ha hb na.sm nb.sm h2).1 hne
theorem sm_enc {a b : Vl} (ha : chk a = 0) (hb : chk b = 0) (na : Nc a) (nb : Nc b) : (enc a == enc b) = sm a b := by
  rw [Bool.eq_iff_iff, sm_iff, beq_iff_eq]
  exact ⟨enc_inj ha hb na.sm nb.sm, fun h => by rw [h]⟩

end Go.Proofs.Ytdcnkdkhanmklab.Apart
