/- The law ValueSames. -/
import Derived.Test.YtdcnkdkhanmklaaAwake
import Derived.Test.YtdcnkdkhanmklaaRCopy
import Derived.Shelf.Abstract
import Derived.Test.YtdcnkdkhanmklaaSame
import Derived.Test.YtdcnkdkhanmklaaRSame
namespace Go.Proofs.Ytdcnkdkhanmklaa.Sames
open Go.RowKit Go.Maps
open Go.Proofs.Ytdcnkdkhanmklaa.SetMath
open Go.Proofs.Ytdcnkdkhanmklaa.BytesMath
open Go.Proofs.Ytdcnkdkhanmklaa.FixMath
open Go.Proofs.Ytdcnkdkhanmklaa.ValueMath
open Go.Proofs.Ytdcnkdkhanmklaa.Base
open Go.Proofs.Ytdcnkdkhanmklaa.Vals
open Go.Proofs.Ytdcnkdkhanmklaa.Check0
open Go.Proofs.Ytdcnkdkhanmklaa.Enc
open Go.Proofs.Ytdcnkdkhanmklaa.Dec
open Go.Proofs.Ytdcnkdkhanmklaa.Rdr (cut_to)
set_option linter.unusedVariables false
set_option linter.unusedSimpArgs false

theorem vn_form {B : Nat} {w : World} {v : Value} {x : Vl} (h : VN B w v x) : ∃ a n c a' n' c' a'' n'' c'', v = .agg #[.int .i64 x.kind, .string (mk x.text), .slice a n c, .slice a' n' c', .slice a'' n'' c''] := Awake.vn_form h
set_option maxHeartbeats 8000000 in
set_option maxRecDepth 100000 in
theorem sames_call {w : World} {u v : Value} {x y : Vl} (h : VA w u x) (h' : VA w v y) (fx : Fit x) (fy : Fit y) :
    Calls Try.prog 6 #[u, v] w fun e w' => e = .returned (.bool true) ∧ Below w.heap.size w w' := by
  have HS := hid_of fun (W : World) (hW : Below w.heap.size w W) => Same.same_call (h.below hW) (h'.below hW) fx fy
  have HR := hid_of fun (W : World) (hW : Below w.heap.size w W) => RSame.rsame_call (h.below hW) (h'.below hW) fx fy
  have HC := hid_of fun (W : World) (hW : Below w.heap.size w W) => (RCopy.rcopy_call (h.below hW) fx).mono fun e w' ⟨t, h1, h2, h3⟩ => (show ∃ a n c a' n' c' a'' n'' c'', e = Ending.returned (.agg #[.int .i64 x.kind, .string (mk x.text), .slice a n c, .slice a' n' c', .slice a'' n'' c'']) ∧ Hid (VA w' (.agg #[.int .i64 x.kind, .string (mk x.text), .slice a n c, .slice a' n' c', .slice a'' n'' c'']) x ∧ Below W.heap.size W w') from by
    obtain ⟨a, n, c, a', n', c', a'', n'', c'', rfl⟩ := vn_form h2
    exact ⟨a, n, c, a', n', c', a'', n'', c'', h1, h2.va, h3⟩)
  have HC2 := hid_of fun (W : World) (hW : Below w.heap.size w W) => (Copy.copy_call (h.below hW) fx).mono fun e w' ⟨t, h1, h2, h3⟩ => (show ∃ a n c a' n' c' a'' n'' c'', e = Ending.returned (.agg #[.int .i64 x.kind, .string (mk x.text), .slice a n c, .slice a' n' c', .slice a'' n'' c'']) ∧ Hid (VA w' (.agg #[.int .i64 x.kind, .string (mk x.text), .slice a n c, .slice a' n' c', .slice a'' n'' c'']) x ∧ Below W.heap.size W w') from by
    obtain ⟨a, n, c, a', n', c', a'', n'', c'', rfl⟩ := vn_form h2
    exact ⟨a, n, c, a', n', c', a'', n'', c'', h1, h2.va, h3⟩)
  have HS2 := hid_of fun (W : World) (hW : Below w.heap.size w W) (t : Value) (ht : VA W t x) => Same.same_call (h.below hW) ht fx fx
  have HR2 := hid_of fun (W : World) (hW : Below w.heap.size w W) (t : Value) (ht : VA W t x) => RSame.rsame_call ht (h.below hW) fx fx
  rw [sm_self] at HS2 HR2
  have HA := hid_of fun W => Awake.awake_call W
  obtain ⟨a, b, c, rfl, h1, h2, h3⟩ := h
  obtain ⟨a', b', c', rfl, k1, k2, k3⟩ := h'
  obtain ⟨la, lc, rfl, _, _⟩ := id h1
  obtain ⟨fa, fc, rfl, _, _⟩ := id h2
  obtain ⟨ea, ec, rfl, _, _⟩ := id h3
  obtain ⟨la', lc', rfl, _, _⟩ := id k1
  obtain ⟨fa', fc', rfl, _, _⟩ := id k2
  obtain ⟨ea', ec', rfl, _, _⟩ := id k3
  clear h1 h2 h3 k1 k2 k3 fx fy
  generalize x.list.length = n1 at *
  generalize List.length x.fields = n2 at *
  generalize List.length x.ranked = n3 at *
  generalize y.list.length = m1 at *
  generalize List.length y.fields = m2 at *
  generalize List.length y.ranked = m3 at *
  generalize mk x.text = X at *
  generalize mk y.text = Y at *
  generalize sm x y = d at *
  obtain ⟨V, hV⟩ : ∃ V, V = (w.alloc (.cells #[.int .i64 x.kind, .string X, .slice la n1 lc, .slice fa n2 fc, .slice ea n3 ec] 26)).alloc (.cells #[.int .i64 y.kind, .string Y, .slice la' m1 lc', .slice fa' m2 fc', .slice ea' m3 ec'] 26) := ⟨_, rfl⟩
  have bV : Below w.heap.size w V := by rw [hV]; exact FRow.bel (FRow.bnew w _) (FRow.bnew _ _) (Nat.le_refl _)
  have v0 : V.heap[w.heap.size]? = some (.cells #[.int .i64 x.kind, .string X, .slice la n1 lc, .slice fa n2 fc, .slice ea n3 ec] 26 (0, 0)) := by rw [hV, Lib.alloc_old _ _ _ (by simp)]; exact heap_alloc_new w _
  have v1 : V.heap[w.heap.size + 1]? = some (.cells #[.int .i64 y.kind, .string Y, .slice la' m1 lc', .slice fa' m2 fc', .slice ea' m3 ec'] 26 (0, 0)) := by
    rw [hV]
    have := heap_alloc_new (w.alloc (.cells #[.int .i64 x.kind, .string X, .slice la n1 lc, .slice fa n2 fc, .slice ea n3 ec] 26)) (.cells #[.int .i64 y.kind, .string Y, .slice la' m1 lc', .slice fa' m2 fc', .slice ea' m3 ec'] 26)
    simpa using this
  have HV := hid_of hV
  generalize x.kind = xk at *
  generalize y.kind = yk at *
  have HX : Hid (∀ W, Below V.heap.size V W → (W.cell? ⟨w.heap.size, 0, none⟩ = some (.int .i64 xk) ∧ W.cell? ⟨w.heap.size, 1, none⟩ = some (.string X) ∧ W.cell? ⟨w.heap.size, 2, none⟩ = some (.slice la n1 lc) ∧ W.cell? ⟨w.heap.size, 3, none⟩ = some (.slice fa n2 fc) ∧ W.cell? ⟨w.heap.size, 4, none⟩ = some (.slice ea n3 ec)) ∧ (W.cell? ⟨w.heap.size + 1, 0, none⟩ = some (.int .i64 yk) ∧ W.cell? ⟨w.heap.size + 1, 1, none⟩ = some (.string Y) ∧ W.cell? ⟨w.heap.size + 1, 2, none⟩ = some (.slice la' m1 lc') ∧ W.cell? ⟨w.heap.size + 1, 3, none⟩ = some (.slice fa' m2 fc') ∧ W.cell? ⟨w.heap.size + 1, 4, none⟩ = some (.slice ea' m3 ec'))) := hid_of fun W hW => And.intro (box5 ((hW.block _ (lt_of v0)).trans v0)).1 (box5 ((hW.block _ (lt_of v1)).trans v1)).1
  have HB := hid_of bV
  have HVV := hid_of (Below.refl V.heap.size V)
  clear v0 v1 bV hV
  have hdd : (d == d) = true := by cases d <;> rfl
  go_enter Try.func6, Try.ntmps6
  go_wp2_with fail
  rw [← HV.out]
  go_region_held3 (fun W => (W.cell? ⟨w.heap.size, 0, none⟩ = some (.int .i64 xk) ∧ W.cell? ⟨w.heap.size, 1, none⟩ = some (.string X) ∧ W.cell? ⟨w.heap.size, 2, none⟩ = some (.slice la n1 lc) ∧ W.cell? ⟨w.heap.size, 3, none⟩ = some (.slice fa n2 fc) ∧ W.cell? ⟨w.heap.size, 4, none⟩ = some (.slice ea n3 ec)) ∧ (W.cell? ⟨w.heap.size + 1, 0, none⟩ = some (.int .i64 yk) ∧ W.cell? ⟨w.heap.size + 1, 1, none⟩ = some (.string Y) ∧ W.cell? ⟨w.heap.size + 1, 2, none⟩ = some (.slice la' m1 lc') ∧ W.cell? ⟨w.heap.size + 1, 3, none⟩ = some (.slice fa' m2 fc') ∧ W.cell? ⟨w.heap.size + 1, 4, none⟩ = some (.slice ea' m3 ec')))
    (first | exact HX.out V HVV.out | exact HX.out s1 VS1.out | exact HX.out r1 VR1.out | exact HX.out w2 V2.out | exact HX.out w3 V3.out | exact HX.out w4 V4.out | exact HX.out w5 V5.out | exact HX.out w6 V6.out | exact HX.out w7 V7.out)
    (first
    | (go_at_call 24; first
      | (refine (HS2.out w3 B3.out _ A3.out).mono ?_; rintro e w4 ⟨rfl, q4⟩; have B4 := hid_of (FRow.bel B3.out q4 (Nat.le_refl _)); have V4 := hid_of (FRow.bel V3.out q4 (Nat.le_refl _)); clear q4)
      | (refine (HS.out r1 BR1.out).mono ?_; rintro e w2 ⟨rfl, q2⟩; have B2 := hid_of (FRow.bel BR1.out q2 (Nat.le_refl _)); have V2 := hid_of (FRow.bel VR1.out q2 (Nat.le_refl _)); clear q2)
      | (refine (HS.out _ HB.out.drew).mono ?_; rintro e s1 ⟨rfl, q1⟩; have q1' : Below V.heap.size V s1 := ⟨q1.os, q1.tape, q1.output, q1.size, q1.block⟩; have BS1 := hid_of (FRow.bel HB.out q1' (Nat.le_refl _)); have VS1 := hid_of q1'; clear q1 q1'))
    | (go_at_call 23; first
      | (refine (HR2.out w5 B5.out _ A5.out).mono ?_; rintro e w6 ⟨rfl, q6⟩; have B6 := hid_of (FRow.bel B5.out q6 (Nat.le_refl _)); have V6 := hid_of (FRow.bel V5.out q6 (Nat.le_refl _)); clear q6)
      | (refine (HR.out s1 BS1.out).mono ?_; rintro e w2 ⟨rfl, q2⟩; have B2 := hid_of (FRow.bel BS1.out q2 (Nat.le_refl _)); have V2 := hid_of (FRow.bel VS1.out q2 (Nat.le_refl _)); clear q2)
      | (refine (HR.out _ HB.out.drew).mono ?_; rintro e r1 ⟨rfl, q1⟩; have q1' : Below V.heap.size V r1 := ⟨q1.os, q1.tape, q1.output, q1.size, q1.block⟩; have BR1 := hid_of (FRow.bel HB.out q1' (Nat.le_refl _)); have VR1 := hid_of q1'; clear q1 q1'))
    | (go_at_call 25; refine (HC.out w2 B2.out).mono ?_; rintro e w3 ⟨g1, g2, g3, g4, g5, g6, g7, g8, g9, rfl, Q3⟩; have A3 := hid_of Q3.out.1; have B3 := hid_of (FRow.bel B2.out Q3.out.2 (Nat.le_refl _)); have V3 := hid_of (FRow.bel V2.out Q3.out.2 (Nat.le_refl _)); clear Q3)
    | (go_at_call 26; refine (HC2.out w4 B4.out).mono ?_; rintro e w5 ⟨k1, k2, k3, k4, k5, k6, k7, k8, k9, rfl, Q5⟩; have A5 := hid_of Q5.out.1; have B5 := hid_of (FRow.bel B4.out Q5.out.2 (Nat.le_refl _)); have V5 := hid_of (FRow.bel V4.out Q5.out.2 (Nat.le_refl _)); clear Q5)
    | (go_at_call 19; refine (HA.out w6).mono ?_; rintro e w7 ⟨rfl, q7⟩; have B7 := hid_of (FRow.bel B6.out q7 (Nat.le_refl _)); have V7 := hid_of (FRow.bel V6.out q7 (Nat.le_refl _)); clear q7))
  all_goals go_wp2_with fail
  all_goals go_ret
  all_goals exact ⟨rfl, B7.out⟩
end Go.Proofs.Ytdcnkdkhanmklaa.Sames
