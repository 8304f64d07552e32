/- RequestSplits, walked: a line is split as the document says. -/
import Derived.Test.YtfkilbhhpipjbaaGreatDoorRefSplit
import Derived.Test.YtfkilbhhpipjbaaGreatDoorSure
import Derived.Test.YtfkilbhhpipjbaaGreatDoorDouble2
namespace Go.Proofs.YtfkilbhhpipjbaaGreatDoor.Splits
open Go.RowKit
open Go.Proofs.YtfkilbhhpipjbaaGreatDoor.TextMath
open Go.Proofs.YtfkilbhhpipjbaaGreatDoor.ReqMath
open Go.Proofs.YtfkilbhhpipjbaaGreatDoor.Base
open Go.Proofs.YtfkilbhhpipjbaaGreatDoor.Small
open Go.Proofs.YtfkilbhhpipjbaaGreatDoor.Bulk2
open Go.Proofs.YtfkilbhhpipjbaaGreatDoor.SplitC
open Go.Proofs.YtfkilbhhpipjbaaGreatDoor.Typed
open Go.Proofs.YtfkilbhhpipjbaaGreatDoor.Lists
open Go.Proofs.YtfkilbhhpipjbaaGreatDoor.Sure
open Go.Proofs.YtfkilbhhpipjbaaGreatDoor.Double2
open Go.Proofs.YtfkilbhhpipjbaaGreatDoor.RefSplit
set_option linter.unusedVariables false

theorem split_len : ∀ (N : Nat) (l : List UInt8), l.length ≤ N → ∀ ws, splitS l = some ws → ws.length ≤ l.length := by
  intro N
  induction N with
  | zero =>
    intro l hl ws h
    have : l = [] := List.length_eq_zero_iff.1 (by omega)
    subst this
    rw [split_nil rfl] at h
    cases h
    simp
  | succ N ih =>
    intro l hl ws h
    cases hd : l.dropWhile isBlank with
    | nil => rw [split_nil hd] at h; cases h; simp
    | cons c t =>
      have hle : (c :: t).length ≤ l.length := by rw [← hd]; exact (List.dropWhile_suffix _).length_le
      cases hw : wordS (c :: t) with
      | none => rw [split_bad hd hw] at h; cases h
      | some q =>
        obtain ⟨x, n⟩ := q
        obtain ⟨h1, h2, _⟩ := word_bound rfl (drop_head hd) hw
        rw [split_word hd hw h1] at h
        cases hs : splitS ((c :: t).drop n) with
        | none => rw [hs] at h; cases h
        | some r =>
          rw [hs] at h
          cases h
          have hdl : ((c :: t).drop n).length = (c :: t).length - n := List.length_drop
          have := ih ((c :: t).drop n) (by omega) r hs
          show (x :: r).length ≤ _
          rw [List.length_cons]
          omega
set_option maxHeartbeats 2000000 in
set_option maxRecDepth 100000 in
theorem splits_walk (s : ByteArray) (hz : s.size ≤ 1048576) (w : World) (hh : Has w) :
    Calls Tryz.prog 4 #[.string s] w fun e w' => e = .returned (.bool true) ∧ Below w.heap.size w w' := by
  have H1 := hid_of (split_call s (by omega) w hh (Or.inr double_means))
  have H2 := hid_of (fun w1 (h8 : 8 ≤ w1.heap.size) => rsplit_call s (by omega) w1 h8)
  have H3 := hid_of (fun w2 (h2 : Has w2) => sure_call w2 h2)
  have HH := hid_of hh
  have HL := hid_of (fun ws => split_len (bs s).length (bs s) (Nat.le_refl _) ws)
  have hsl : (bs s).length = s.size := len_bs s
  cases hs : splitS (bs s) with
  | none =>
    rw [hs] at H1 H2
    have HSm : Hid (∀ w2 : World, Calls Tryz.prog 17 #[.slice none 0 0, .slice none 0 0] w2 fun e w' => e = .returned (.bool true) ∧ ∃ n, w' = w2.drewN n) := by
      intro w2
      refine (same_call _ _ [] [] w2 ⟨none, 0, rfl, Or.inl rfl⟩ ⟨none, 0, rfl, Or.inl rfl⟩ (by decide)).mono ?_
      rintro e w' ⟨rfl, hn⟩
      exact ⟨rfl, hn⟩
    clear hs hh HL
    go_enter Tryz.func4, Tryz.ntmps4
    go_wp2_with fail
    refine H1.out.mono ?_
    rintro e w1 ⟨rfl, b1⟩
    have B1 := hid_of b1
    clear b1
    go_wp2_with fail
    refine (H2.out w1 (HH.out.later B1.out).size).mono ?_
    rintro e w2 ⟨rfl, b2⟩
    have B2 := hid_of (B1.out.trans (b2.mono B1.out.size))
    clear b2
    go_wp2_with fail
    refine (HSm.out w2).mono ?_
    rintro e w3 ⟨rfl, nn, rfl⟩
    have B3 : Hid (Below w.heap.size w (w2.drewN nn)) := B2.out.trans ⟨rfl, rfl, rfl, Nat.le_refl _, fun _ _ => rfl⟩
    go_wp2_with fail
    refine (H3.out _ (HH.out.later B3.out)).mono ?_
    rintro e w4 ⟨rfl, b4⟩
    have B4 := hid_of (B3.out.trans (b4.mono B3.out.size))
    clear b4
    go_wp2_with fail
    go_ret
    exact ⟨rfl, B4.out⟩
  | some ws =>
    rw [hs] at H1 H2
    have hwl := HL.out ws hs
    clear hs hh HL
    go_enter Tryz.func4, Tryz.ntmps4
    go_wp2_with fail
    refine H1.out.mono ?_
    rintro e w1 ⟨v1, rfl, r1, o1, b1⟩
    have B1 := hid_of b1
    have R1 := hid_of r1
    clear b1 r1 o1
    go_wp2_with fail
    refine (H2.out w1 (HH.out.later B1.out).size).mono ?_
    rintro e w2 ⟨v2, rfl, r2, o2, b2⟩
    have B2 := hid_of (B1.out.trans (b2.mono B1.out.size))
    have HSm : Hid (Calls Tryz.prog 17 #[v1, v2] w2 fun e w' => e = .returned (.bool true) ∧ ∃ n, w' = w2.drewN n) := by
      refine (same_call _ _ ws ws w2 (sr_below (sr_ws R1.out) b2) (sr_ws r2) (by omega)).mono ?_
      rintro e w' ⟨rfl, hn⟩
      exact ⟨by rw [decide_eq_true rfl], hn⟩
    clear b2 r2 o2
    go_wp2_with fail
    refine HSm.out.mono ?_
    rintro e w3 ⟨rfl, nn, rfl⟩
    have B3 : Hid (Below w.heap.size w (w2.drewN nn)) := B2.out.trans ⟨rfl, rfl, rfl, Nat.le_refl _, fun _ _ => rfl⟩
    go_wp2_with fail
    refine (H3.out _ (HH.out.later B3.out)).mono ?_
    rintro e w4 ⟨rfl, b4⟩
    have B4 := hid_of (B3.out.trans (b4.mono B3.out.size))
    clear b4
    go_wp2_with fail
    go_ret
    exact ⟨rfl, B4.out⟩
end Go.Proofs.YtfkilbhhpipjbaaGreatDoor.Splits
