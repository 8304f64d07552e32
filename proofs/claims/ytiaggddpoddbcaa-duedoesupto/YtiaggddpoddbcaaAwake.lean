/- awake: the chapter's example holds. -/
import Derived.Test.YtiaggddpoddbcaaNewS
namespace Go.Proofs.Ytiaggddpoddbcaa.Awake
open Go.RowKit Go.Maps Go.Shelf
open Go.Proofs.Ytiaggddpoddbcaa.HeapMath
open Go.Proofs.Ytiaggddpoddbcaa.Heap
open Go.Proofs.Ytiaggddpoddbcaa.Turn
open Go.Proofs.Ytiaggddpoddbcaa.Before
open Go.Proofs.Ytiaggddpoddbcaa.RowB
open Go.Proofs.Ytiaggddpoddbcaa.IndexS
open Go.Proofs.Ytiaggddpoddbcaa.SetS
open Go.Proofs.Ytiaggddpoddbcaa.Peek
open Go.Proofs.Ytiaggddpoddbcaa.PeekS
open Go.Proofs.Ytiaggddpoddbcaa.Take
open Go.Proofs.Ytiaggddpoddbcaa.NewS
set_option linter.unusedVariables false
set_option linter.unusedSimpArgs false
theorem given_new {s s' : Es} {k : Bs} {t : Int} (h : Given s k t s') (hn : ∀ x ∈ s, x.1 ≠ k) : s'.Perm (s ++ [(k, t)]) := by
  rcases h with ⟨x, s0, hx, hp, _⟩ | ⟨_, hp⟩
  · exact absurd hx (hn x (hp.mem_iff.1 (by simp)))
  · exact hp
theorem set_new {base b : Nat} {s : Es} {w : World} (h : IX base b w s) (k : Bs) (hk : k.length ≤ 281474976710656) (t : Int) (ht : 0 ≤ t) (ht2 : t ≤ 9007199254740992) (hs : s.length + 1 < 1099511627776) (hn : ∀ x ∈ s, x.1 ≠ k) :
    Calls Try.prog 27 #[ptr b, .string (mk k), .int .i64 t] w fun e w' => e = .returned (.int .i64 0) ∧ IX base b w' (s ++ [(k, t)]) ∧ Ev DT base w w' :=
  (set_call h k hk t ht ht2 hs).mono fun e w' q => by
    obtain ⟨q1, ⟨s', hg, hix⟩, hv⟩ := q
    exact ⟨q1, ix_perm hix (given_new hg hn), hv⟩
theorem ts_below {w w' : World} {v : Value} {ks : List Bs} (h : TS w v ks) (hb : Below w.heap.size w w') : TS w' v ks := by
  obtain ⟨a, c, rfl, hc⟩ := h
  refine ⟨a, c, rfl, fun i hi => ?_⟩
  obtain ⟨q, rfl, hq⟩ := hc i hi
  exact ⟨q, rfl, (hb.cell (block_lt_of_cell hq)).trans hq⟩
theorem ts_two (w : World) (x y : Bs) : TS (w.alloc (.cells #[sv x, sv y] 9)) (.slice (some ⟨w.heap.size, 0, none⟩) 2 2) [x, y] := by
  have hn : (w.alloc (.cells #[sv x, sv y] 9)).heap[w.heap.size]? = some (.cells #[sv x, sv y] 9 (0, 0)) := heap_alloc_new w _
  refine ⟨_, 2, rfl, fun i hi => ⟨w.heap.size, rfl, ?_⟩⟩
  match i, hi with
  | 0, _ => exact Lib.cell_of_heap hn 0
  | 1, _ => exact Lib.cell_of_heap hn 1
theorem ix_len {base b : Nat} {s : Es} {w : World} (h : IX base b w s) : Calls Try.prog 29 #[ptr b] w fun e w' => e = .returned (.int .i64 (s.length : Int)) ∧ w' = w := by
  obtain ⟨l, hr, hh, hp⟩ := h
  rw [← hp.length_eq]
  exact ilen_call hr.1
set_option maxHeartbeats 1000000 in
set_option maxRecDepth 100000 in
theorem awake_call (w : World) : Calls Try.prog 9 #[] w fun e w' => e = .returned (.bool true) ∧ Below w.heap.size w w' := by
  have H := hid_of (new_call w)
  have H1 := hid_of (set_new (new_ix w) [98] (by decide) 5 (by decide) (by decide) (by decide) (by simp))
  go_enter Try.func9, Try.ntmps9
  go_wp2_with fail
  refine H.out.mono ?_
  rintro e w1 ⟨rfl, hw1⟩
  rw [List.nil_append, ← hw1] at H1
  have B1 : Hid (Below w.heap.size w w1) := hid_of (by rw [hw1]; exact (Below.refl _ w).alloc (Nat.le_refl _) _)
  clear hw1 H
  unfold ptr at H1
  go_wp2_with fail
  refine H1.out.mono ?_
  rintro e w2 ⟨rfl, ix2, v2⟩
  have H2 := hid_of (set_new ix2 [97] (by decide) 5 (by decide) (by decide) (by decide) (by decide))
  have B2 : Hid (Below w.heap.size w w2) := hid_of (B1.out.trans (v2.below B1.out.size))
  clear ix2 v2 H1 B1
  unfold ptr at H2
  go_wp2_with fail
  refine H2.out.mono ?_
  rintro e w3 ⟨rfl, ix3, v3⟩
  have H3 := hid_of (set_new ix3 [99] (by decide) 2 (by decide) (by decide) (by decide) (by decide))
  have B3 : Hid (Below w.heap.size w w3) := hid_of (B2.out.trans (v3.below B2.out.size))
  clear ix3 v3 H2 B2
  unfold ptr at H3
  go_wp2_with fail
  refine H3.out.mono ?_
  rintro e w4 ⟨rfl, ix4, v4⟩
  have H4 := hid_of (NextS.next_call ix4)
  have B4 : Hid (Below w.heap.size w w4) := hid_of (B3.out.trans (v4.below B3.out.size))
  have IX4 := hid_of ix4
  clear ix4 v4 H3 B3
  unfold ptr at H4
  go_wp2_with fail
  refine H4.out.mono ?_
  rintro e w5 ⟨hor, b5⟩
  have he : e = .returned (.tuple #[.string (mk [99]), .int .i64 2, .bool true]) := by
    rcases hor with ⟨x, hx, hmin, rfl⟩ | ⟨h, _⟩
    · have hx' : x = ([98], 5) ∨ x = ([97], 5) ∨ x = ([99], 2) := by simpa using hx
      rcases hx' with rfl | rfl | rfl
      · exact absurd (hmin ([99], 2) (by decide)) (by decide)
      · exact absurd (hmin ([99], 2) (by decide)) (by decide)
      · rfl
    · cases h
  subst he
  have ix5 := ix_below IX4.out b5
  have hS : Sorted ltS ([([98], 5)] ++ [([97], 5)] ++ [([99], 2)] : Es) [([99], 2), ([97], 5), ([98], 5)] := ⟨by decide, by decide⟩
  have hgot : got [([99], 2), ([97], 5), ([98], 5)] 5 2 = [([99], 2), ([97], 5)] := by decide
  have H5 := hid_of (peek_call ix5 hS (by decide) 5 2)
  rw [hgot] at H5
  have B5 := hid_of (B4.out.trans (b5.mono B4.out.size))
  have IX5 := hid_of ix5
  clear ix5 hor b5 H4 B4 IX4 hS hgot
  unfold ptr at H5
  have q99 : ((mk [99]).toList == [99]) = true := by rw [mk_list]; rfl
  go_wp2_with fail
  refine H5.out.mono ?_
  rintro e w6 ⟨v6, rfl, o6, b6⟩
  have hts := TS.of_row (ks := keysOf [([99], 2), ([97], 5)]) o6 rfl
  have IX6 := hid_of (ix_below IX5.out b6)
  have B6 := hid_of (B5.out.trans (b6.mono B5.out.size))
  have HTS := hid_of hts
  clear o6 b6 hts H5 IX5 B5
  obtain ⟨W7, hW7⟩ : ∃ W7, W7 = w6.alloc (.cells #[.string ⟨#[99]⟩, .string ⟨#[97]⟩] 9) := ⟨_, rfl⟩
  have b7 : Below w6.heap.size w6 W7 := by rw [hW7]; exact (Below.refl _ w6).alloc (Nat.le_refl _) _
  have H6 := hid_of (texts_call (ts_below HTS.out b7) (show TS W7 (.slice (some ⟨w6.heap.size, 0, none⟩) 2 2) [[99], [97]] by rw [hW7]; exact ts_two w6 [99] [97]) (by decide) (by decide))
  rw [show decide (keysOf [([99], 2), ([97], 5)] = [[99], [97]]) = true from by decide] at H6
  have HW7 := hid_of hW7
  have B7 := hid_of b7
  clear b7 hW7
  go_wp2_with fail
  rw [← HW7.out]
  refine H6.out.mono ?_
  rintro e w8 ⟨rfl, m, rfl⟩
  have b8 : Below W7.heap.size W7 (W7.drewN m) := ⟨rfl, rfl, rfl, Nat.le_refl _, fun _ _ => rfl⟩
  have H7 := hid_of (ix_len (ix_below (ix_below IX6.out B7.out) b8))
  have B8 := hid_of ((B6.out.trans (B7.out.mono B6.out.size)).trans (b8.mono (Nat.le_trans B6.out.size B7.out.size)))
  clear b8 H6
  unfold ptr at H7
  rw [show (([([98], 5)] ++ [([97], 5)] ++ [([99], 2)] : Es).length : Int) = 3 from rfl] at H7
  go_wp2_with fail
  refine H7.out.mono ?_
  rintro e w9 ⟨rfl, rfl⟩
  go_wp2_with fail
  go_ret
  exact ⟨rfl, B8.out⟩
end Go.Proofs.Ytiaggddpoddbcaa.Awake
