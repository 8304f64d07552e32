/- The law ValueDecodes. -/
import Derived.Test.YtdcnkdkhanmklaaRDec0
import Derived.Test.YtdcnkdkhanmklaaBack
namespace Go.Proofs.Ytdcnkdkhanmklaa.Decs
open Go.RowKit Go.Maps
open Go.Proofs.Ytdcnkdkhanmklaa.SetMath
open Go.Proofs.Ytdcnkdkhanmklaa.BytesMath
open Go.Proofs.Ytdcnkdkhanmklaa.ValueMath
open Go.Proofs.Ytdcnkdkhanmklaa.ReadMath
open Go.Proofs.Ytdcnkdkhanmklaa.Base
open Go.Proofs.Ytdcnkdkhanmklaa.Vals
open Go.Proofs.Ytdcnkdkhanmklaa.Check0
open Go.Proofs.Ytdcnkdkhanmklaa.Dec
open Go.Proofs.Ytdcnkdkhanmklaa.RDecM
set_option linter.unusedVariables false
set_option linter.unusedSimpArgs false

theorem dec_fit (S : Bs) : Fit (decV S).1 := by
  cases h : valS S with
  | none => rw [dec_none h]; exact Back.fit_z
  | some q =>
    obtain ⟨x, r⟩ := q
    rw [dec_some h]
    split
    · exact (val_wel h).toFit
    · exact Back.fit_z
set_option maxHeartbeats 4000000 in
set_option maxRecDepth 100000 in
theorem decodes_call (S : Bs) (w : World) (hl : S.length ≤ 140737488355328) :
    Calls Try.prog 5 #[.string (mk S)] w fun e w' => e = .returned (.bool true) ∧ Below w.heap.size w w' := by
  have HC := hid_of (decode_call S w hl)
  have HR := hid_of fun W => RDec0.rdecode_call S W hl
  have HS := hid_of fun (W : World) (u v : Value) (h : VA W u (decV S).1) (h' : VA W v (decV S).1) => RSame.rsame_call h h' (dec_fit S) (dec_fit S)
  rw [sm_self] at HS
  have HA := hid_of fun W => Awake.awake_call W
  unfold RT at HC HR
  generalize (((decV S).2.1 : Nat) : Int) = N at *
  generalize (decV S).2.2 = E at *
  generalize (decV S).1 = x at *
  generalize mk S = X at *
  clear hl
  go_enter Try.func5, Try.ntmps5
  go_wp2_with fail
  refine HC.out.mono ?_
  rintro e w1 ⟨v1, rfl, n1, b1⟩
  obtain ⟨k, t, a, n, c, a', n', c', a'', n'', c'', rfl⟩ := vn_shape n1
  obtain ⟨W1, hW1⟩ : ∃ W, W = w1.alloc (.cells #[.int .i64 k, .string t, .slice a n c, .slice a' n' c', .slice a'' n'' c''] 26) := ⟨_, rfl⟩
  have bW1 : Below w1.heap.size w1 W1 := by rw [hW1]; exact FRow.bnew w1 _
  have x1 : W1.heap[w1.heap.size]? = some (.cells #[.int .i64 k, .string t, .slice a n c, .slice a' n' c', .slice a'' n'' c''] 26 (0, 0)) := by rw [hW1]; exact heap_alloc_new w1 _
  have R1 := hid_of (And.intro (n1.va.below bW1) (And.intro (FRow.bel b1 bW1 (Nat.le_refl _)) x1))
  have HW1 := hid_of hW1
  clear n1 b1 bW1 x1 hW1 HC
  go_wp2_with fail
  rw [← HW1.out]
  refine (HR.out W1).mono ?_
  rintro e w2 ⟨v2, rfl, n2, b2⟩
  obtain ⟨k2, t2, d, m, f, d', m', f', d'', m'', f'', rfl⟩ := vn_shape n2
  obtain ⟨W2, hW2⟩ : ∃ W, W = w2.alloc (.cells #[.int .i64 k2, .string t2, .slice d m f, .slice d' m' f', .slice d'' m'' f''] 26) := ⟨_, rfl⟩
  have bW2 : Below w2.heap.size w2 W2 := by rw [hW2]; exact FRow.bnew w2 _
  have x2 : W2.heap[w2.heap.size]? = some (.cells #[.int .i64 k2, .string t2, .slice d m f, .slice d' m' f', .slice d'' m'' f''] 26 (0, 0)) := by rw [hW2]; exact heap_alloc_new w2 _
  have b3 := FRow.bel b2 bW2 (Nat.le_refl _)
  have HS2 := hid_of (HS.out W2 _ _ (R1.out.1.below b3) (n2.va.below bW2))
  have B2 := hid_of (FRow.bel R1.out.2.1 b3 (Nat.le_refl _))
  obtain ⟨⟨q0, q1, q2, q3, q4⟩, _⟩ := box5 ((b3.block _ (lt_of R1.out.2.2)).trans R1.out.2.2)
  obtain ⟨⟨p0, p1, p2, p3, p4⟩, _⟩ := box5 x2
  have hlt : w1.heap.size < w2.heap.size := Nat.lt_of_lt_of_le (lt_of R1.out.2.2) b2.size
  obtain ⟨⟨r0, r1, r2, r3, r4⟩, _⟩ := box5 ((b2.block _ (lt_of R1.out.2.2)).trans R1.out.2.2)
  have HW2 := hid_of hW2
  clear n2 b2 bW2 x2 hW2 HR b3 R1 HS
  go_wp2_with fail
  rw [← HW2.out]
  refine HS2.out.mono ?_
  rintro e w3 ⟨rfl, b4⟩
  have B3 := hid_of (FRow.bel B2.out b4 (Nat.le_refl _))
  clear b4 HS2
  go_wp2_with fail
  refine (HA.out w3).mono ?_
  rintro e w4 ⟨rfl, b5⟩
  have B4 := hid_of (FRow.bel B3.out b5 (Nat.le_refl _))
  clear b5
  go_wp2_with fail
  go_ret
  exact ⟨rfl, B4.out⟩
end Go.Proofs.Ytdcnkdkhanmklaa.Decs
