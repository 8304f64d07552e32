/- RequestBegins, walked: a beginning tells a beginning. -/
import Derived.Test.YtfkilbhhpipjbabGreatDoorSure
import Derived.Test.YtfkilbhhpipjbabGreatDoorDouble2
namespace Go.Proofs.YtfkilbhhpipjbabGreatDoor.Begins
open Go.RowKit
open Go.Proofs.YtfkilbhhpipjbabGreatDoor.TextMath
open Go.Proofs.YtfkilbhhpipjbabGreatDoor.ReqMath
open Go.Proofs.YtfkilbhhpipjbabGreatDoor.Base
open Go.Proofs.YtfkilbhhpipjbabGreatDoor.Small
open Go.Proofs.YtfkilbhhpipjbabGreatDoor.Bulk2
open Go.Proofs.YtfkilbhhpipjbabGreatDoor.SplitC
open Go.Proofs.YtfkilbhhpipjbabGreatDoor.Whole
open Go.Proofs.YtfkilbhhpipjbabGreatDoor.Lists
open Go.Proofs.YtfkilbhhpipjbabGreatDoor.Sure
open Go.Proofs.YtfkilbhhpipjbabGreatDoor.Double2
set_option linter.unusedVariables false

/- the first requests of a list -/
theorem und31 : Tryz.prog.underlying 31 = some (.slice (Tryz.prog.elem 31)) := by kernel_rfl
theorem el31' : Tryz.prog.elem 31 = 24 := by kernel_rfl
theorem size24 (w : World) : (sizeOf 24).run Tryz.prog w = .ok 1 w := by kernel_rfl
theorem wa_form {w : World} {v : Value} {reqs : List (List (List UInt8))} (h : WA w v reqs) : ∃ a c, v = .slice a reqs.length c := by
  obtain ⟨us, h1, h2, h3⟩ := h
  rcases h1.2 with ⟨hv, hn⟩ | ⟨g, cap, cur, hv, _⟩
  · exact ⟨none, 0, by rw [hv, ← h2, hn]⟩
  · exact ⟨_, cap, by rw [hv, h2]⟩
theorem wa_take {w : World} {v : Value} {reqs : List (List (List UInt8))} (h : WA w v reqs) (n : Nat) (hn : n ≤ reqs.length) :
    ∃ a c, (∀ W, (Instr.slice 31 v none (some (.int .i64 (n : Int))) none).run Tryz.prog W = .ok (.slice a n c) W) ∧ AR w (.slice a n c) (reqs.take n) := by
  have har := ar_wa h
  obtain ⟨us, h1, h2, h3⟩ := h
  have hlen : (reqs.take n).length = n := by rw [List.length_take]; omega
  rcases h1.2 with ⟨rfl, h0⟩ | ⟨g, cap, cur, rfl, hb, hg, hc1, hc2, hc3, hc4⟩
  · have hn0 : n = 0 := by omega
    subst hn0
    refine ⟨none, 0, fun W => ?_, ⟨none, 0, rfl, Or.inl rfl⟩⟩
    rw [run_slice_h (P := Tryz.prog) W 31 none 0 0 und31 .i64 ((0 : Nat) : Int) (by omega) (by omega), el31', size24]
    rfl
  · refine ⟨some ⟨g, 0, none⟩, cap, fun W => ?_, ?_⟩
    · rw [run_slice_h (P := Tryz.prog) W 31 (some ⟨g, 0, none⟩) us.length cap und31 .i64 (n : Int) (by omega) (by omega), el31', size24]
      show Result.ok (sliced _ 0 ((n : Int)).toNat cap 1) W = _
      unfold sliced
      by_cases e : cap = 0
      · simp [e]
      · simp [Addr.add]
    · obtain ⟨a, c, e1, e2⟩ := har
      simp only [Value.slice.injEq] at e1
      obtain ⟨ea, -, -⟩ := e1
      refine ⟨_, _, by rw [hlen], ?_⟩
      by_cases h0 : n = 0
      · left; rw [h0]; rfl
      · right
        rcases e2 with e2 | ⟨g', o, e2, e3⟩
        · rw [e2] at hn; simp at hn; exact absurd hn h0
        · refine ⟨g', o, ea.trans e2, fun k hk => ?_⟩
          obtain ⟨u, q1, q2⟩ := e3 k (by omega)
          exact ⟨u, q1, by rw [List.getElem_take]; exact q2⟩
/- what a beginning tells -/
theorem begins_math (L : Lim) (s m : List UInt8) : (wholeS L s).reqs.length ≤ (wholeS L (s ++ m)).reqs.length ∧ (wholeS L s).reqs = (wholeS L (s ++ m)).reqs.take (wholeS L s).reqs.length ∧ (wholeS L s).used ≤ (wholeS L (s ++ m)).used ∧ (wholeS L (s ++ m)).used ≤ s.length + m.length ∧ ((wholeS L s).word ≠ [] → wholeS L (s ++ m) = wholeS L s) := by
  have h1 := whole_app (L := L) s.length s (Nat.le_refl _) m
  have h2 := whole_used (L := L) (s ++ m).length (s ++ m) (Nat.le_refl _)
  rw [List.length_append] at h2
  by_cases hw : (wholeS L s).word = []
  · have h3 := h1.2 hw
    refine ⟨?_, ?_, ?_, h2, fun h => absurd hw h⟩
    · rw [h3]; simp
    · rw [h3]; simp
    · rw [h3]; simp
  · have h3 := h1.1 hw
    refine ⟨by rw [h3]; exact Nat.le_refl _, by rw [h3]; simp, by rw [h3]; exact Nat.le_refl _, h2, h1.1⟩
theorem bs_app (s m : ByteArray) : bs (s ++ m) = bs s ++ bs m := by simp [bs]
theorem reqs_le (L : Lim) : ∀ (N : Nat) (l : List UInt8), l.length ≤ N → (wholeS L l).reqs.length ≤ l.length := by
  intro N
  induction N with
  | zero =>
    intro l hl
    have : l = [] := List.length_eq_zero_iff.1 (by omega)
    subst this
    rw [whole_more (next_more rfl)]
    simp
  | succ N ih =>
    intro l hl
    cases hq : nextS L l with
    | more j => rw [whole_more hq]; simp
    | fault j w => rw [whole_fault hq]; simp
    | one j ws =>
      obtain ⟨h1, h2, _⟩ := next_le_one hq
      rw [whole_one hq]
      have := ih (l.drop j) (by rw [List.length_drop]; omega)
      rw [List.length_drop] at this
      simp only [List.length_cons]
      omega
theorem wa_len {w : World} {v : Value} {reqs : List (List (List UInt8))} (h : WA w v reqs) : reqs.length ≤ 9223372036854775807 ∧ ∀ r, r ∈ reqs → r.length ≤ 9223372036854775807 := by
  obtain ⟨us, h1, h2, h3⟩ := h
  have hm : maxLen = 9223372036854775807 := rfl
  refine ⟨?_, fun r hr => ?_⟩
  · rcases h1.2 with ⟨rfl, h0⟩ | ⟨g, cap, cur, rfl, hb, hg, hc1, hc2, hc3, hc4⟩ <;> omega
  · obtain ⟨k, hk, rfl⟩ := List.getElem_of_mem hr
    have hku : k < us.length := by omega
    have q := h3 k us[k] reqs[k] (List.getElem?_eq_getElem hku) (List.getElem?_eq_getElem hk)
    unfold WS at q
    rcases q.2 with ⟨e, h0⟩ | ⟨g, cap, cur, e, hb, hg, hc1, hc2, hc3, hc4⟩ <;> omega
theorem str_same (x : ByteArray) : (x.toList == x.toList) = true := by simp
theorem mk_empty {l : List UInt8} (h : l ≠ []) : (mk l).toList.isEmpty = false := by
  rw [Lib.toList_data]
  show l.isEmpty = false
  cases l with
  | nil => exact absurd rfl h
  | cons a b => rfl
set_option maxHeartbeats 2000000 in
set_option maxRecDepth 100000 in
theorem begins_yes (L : Lim) (h : okB L.bulk L.args L.line = true) (s m : ByteArray) (w : World) (hh : Has w) (hs : s.size ≤ 1048576) (hm : m.size ≤ 1048576) :
    Calls Tryz.prog 4 #[limV L, .string s, .string m] w fun e w' => e = .returned (.bool true) ∧ Below w.heap.size w w' := by
  have H1 := hid_of (fun w1 (h1 : Has w1) => whole_call L h s (by omega) w1 h1 (Or.inr double_means))
  have H2 := hid_of (fun w1 (h1 : Has w1) => whole_call L h (s ++ m) (by rw [ByteArray.size_append]; omega) w1 h1 (Or.inr double_means))
  have H3 := hid_of (fun w2 (h2 : Has w2) => sure_call w2 h2)
  have HH := hid_of hh
  obtain ⟨k1, k2, k3, k4, k5⟩ := begins_math L (bs s) (bs m)
  rw [← bs_app] at k1 k2 k3 k4 k5
  rw [len_bs, len_bs] at k4
  obtain ⟨A, hA⟩ : ∃ A, A = wholeS L (bs s) := ⟨_, rfl⟩
  obtain ⟨B, hB⟩ : ∃ B, B = wholeS L (bs (s ++ m)) := ⟨_, rfl⟩
  rw [← hA] at k1 k2 k3 k5 H1
  rw [← hB] at k1 k2 k3 k4 k5 H2
  have K2 := hid_of k2
  have K5 := hid_of k5
  have hl3 : s.size + m.size ≤ maxLen := by unfold maxLen; omega
  have ew : IntKind.i64.wrap ((s.size : Int) + (m.size : Int)) = (s.size : Int) + (m.size : Int) := IntWalk.i64_in _ (by omega)
  have g1 : ¬ ((B.reqs.length : Int) < (A.reqs.length : Int)) := by omega
  have g2 : ¬ ((B.used : Int) < (A.used : Int)) := by omega
  have g3 : ¬ ((s.size : Int) + (m.size : Int) < (B.used : Int)) := by omega
  have K1 := hid_of k1
  obtain ⟨w0, hw0⟩ : ∃ w0, w0 = w.alloc (.cells #[.int .i64 L.bulk, .int .i64 L.args, .int .i64 L.line] 23) := ⟨_, rfl⟩
  have B0 : Hid (Below w.heap.size w w0) := by rw [hw0]; exact (Below.refl _ w).alloc (Nat.le_refl _) _
  have BX : Hid (∀ W, Below w0.heap.size w0 W → W.cell? ⟨w.heap.size, 0, none⟩ = some (.int .i64 L.bulk) ∧ W.cell? ⟨w.heap.size, 1, none⟩ = some (.int .i64 L.args) ∧ W.cell? ⟨w.heap.size, 2, none⟩ = some (.int .i64 L.line)) := by
    intro W hW
    have hx : w0.heap[w.heap.size]? = some (.cells #[.int .i64 L.bulk, .int .i64 L.args, .int .i64 L.line] 23 (0, 0)) := by rw [hw0]; exact heap_alloc_new w _
    have hy := (hW.block w.heap.size (Array.getElem?_eq_some_iff.1 hx).1).trans hx
    exact ⟨Lib.cell_of_heap hy 0, Lib.cell_of_heap hy 1, Lib.cell_of_heap hy 2⟩
  have H0 := hid_of (HH.out.later B0.out)
  clear h hh k1 k2 k3 k4 k5 hA hB
  unfold limV at *
  go_enter Tryz.func4, Tryz.ntmps4
  go_wp2_with fail
  rw [← hw0]
  refine (H1.out w0 H0.out).mono ?_
  rintro e w1 ⟨va, rfl, wa, b1⟩
  obtain ⟨x0, x1, x2⟩ := BX.out w1 b1
  have B1 := hid_of (B0.out.trans (b1.mono B0.out.size))
  have WA1 := hid_of wa
  obtain ⟨aa, ca, rfl⟩ := wa_form wa
  clear b1 wa
  go_wp2_with fail
  refine (H2.out _ (HH.out.later B1.out)).mono ?_
  rintro e w2 ⟨vb, rfl, wb, b2⟩
  have B2 := hid_of (B1.out.trans (b2.mono B1.out.size))
  obtain ⟨at0, ct0, hsl, hat⟩ := wa_take wb A.reqs.length K1.out
  obtain ⟨ab, cb, rfl⟩ := wa_form wb
  have HAll : Hid (Calls Tryz.prog 11 #[.slice aa A.reqs.length ca, .slice at0 A.reqs.length ct0] w2 fun e w' => e = .returned (.bool true) ∧ ∃ n, w' = w2.drewN n) := by
    refine (all_call _ _ A.reqs (B.reqs.take A.reqs.length) w2 (ar_below (ar_wa WA1.out) b2) hat (wa_len WA1.out).1 (wa_len WA1.out).2).mono ?_
    rintro e w' ⟨rfl, hn⟩
    exact ⟨by rw [decide_eq_true K2.out], hn⟩
  clear b2 hat wb
  go_wp2_with fail
  refine HAll.out.mono ?_
  rintro e w3 ⟨rfl, nn, rfl⟩
  have HS := hid_of (H3.out (w2.drewN nn) ((HH.out.later B2.out).later ⟨rfl, rfl, rfl, Nat.le_refl _, fun _ _ => rfl⟩))
  have B3 : Hid (Below w.heap.size w (w2.drewN nn)) := B2.out.trans ⟨rfl, rfl, rfl, Nat.le_refl _, fun _ _ => rfl⟩
  by_cases hw : A.word = []
  · have e0 : (mk A.word).toList.isEmpty = true := by rw [hw, Lib.toList_data]; rfl
    clear hw
    go_wp2_with fail
    refine HS.out.mono ?_
    rintro e w4 ⟨rfl, b4⟩
    have B4 := hid_of (B3.out.trans (b4.mono B3.out.size))
    clear b4
    go_wp2_with fail
    go_ret
    exact ⟨rfl, B4.out⟩
  · have e0 := mk_empty hw
    have eB := K5.out hw
    subst eB
    have e1 := str_same (mk B.word)
    clear hw
    go_wp2_with fail
    refine HS.out.mono ?_
    rintro e w4 ⟨rfl, b4⟩
    have B4 := hid_of (B3.out.trans (b4.mono B3.out.size))
    clear b4
    go_wp2_with fail
    go_ret
    exact ⟨rfl, B4.out⟩
set_option maxHeartbeats 2000000 in
set_option maxRecDepth 100000 in
theorem begins_no (x y z : Int) (h : okB x y z = false) (s m : ByteArray) (w : World) (hh : Has w) (hs : s.size ≤ 1048576) (hm : m.size ≤ 1048576) :
    Calls Tryz.prog 4 #[.agg #[.int .i64 x, .int .i64 y, .int .i64 z], .string s, .string m] w fun e w' => e = .returned (.bool true) ∧ Below w.heap.size w w' := by
  have H1 := hid_of (fun s w => whole_no x y z h s w)
  have H3 := hid_of (fun w2 (h2 : Has w2) => sure_call w2 h2)
  have HH := hid_of hh
  have HAll : Hid (∀ w2 : World, Calls Tryz.prog 11 #[.slice none 0 0, .slice none 0 0] w2 fun e w' => e = .returned (.bool true) ∧ ∃ n, w' = w2.drewN n) := by
    intro w2
    refine (all_call _ _ [] [] w2 ⟨none, 0, rfl, Or.inl rfl⟩ ⟨none, 0, rfl, Or.inl rfl⟩ (by decide) (fun r hr => by cases hr)).mono ?_
    rintro e w' ⟨rfl, hn⟩
    exact ⟨rfl, hn⟩
  have hl3 : s.size + m.size ≤ maxLen := by unfold maxLen; omega
  have ew : IntKind.i64.wrap ((s.size : Int) + (m.size : Int)) = (s.size : Int) + (m.size : Int) := IntWalk.i64_in _ (by omega)
  have g3 : ¬ ((s.size : Int) + (m.size : Int) < 0) := by omega
  obtain ⟨w0, hw0⟩ : ∃ w0, w0 = w.alloc (.cells #[.int .i64 x, .int .i64 y, .int .i64 z] 23) := ⟨_, rfl⟩
  have B0 : Hid (Below w.heap.size w w0) := by rw [hw0]; exact (Below.refl _ w).alloc (Nat.le_refl _) _
  have BX : Hid (∀ W, Below w0.heap.size w0 W → W.cell? ⟨w.heap.size, 0, none⟩ = some (.int .i64 x) ∧ W.cell? ⟨w.heap.size, 1, none⟩ = some (.int .i64 y) ∧ W.cell? ⟨w.heap.size, 2, none⟩ = some (.int .i64 z)) := by
    intro W hW
    have hx : w0.heap[w.heap.size]? = some (.cells #[.int .i64 x, .int .i64 y, .int .i64 z] 23 (0, 0)) := by rw [hw0]; exact heap_alloc_new w _
    have hy := (hW.block w.heap.size (Array.getElem?_eq_some_iff.1 hx).1).trans hx
    exact ⟨Lib.cell_of_heap hy 0, Lib.cell_of_heap hy 1, Lib.cell_of_heap hy 2⟩
  have H0 := hid_of (HH.out.later B0.out)
  have hsl : ∀ W, (Instr.slice 31 (.slice none 0 0) none (some (.int .i64 0)) none).run Tryz.prog W = .ok (.slice none 0 0) W := by
    intro W
    rw [run_slice_h (P := Tryz.prog) W 31 none 0 0 und31 .i64 0 (by omega) (by omega), el31', size24]
    rfl
  clear h hh
  go_enter Tryz.func4, Tryz.ntmps4
  go_wp2_with fail
  rw [← hw0]
  refine (H1.out _ w0).mono ?_
  rintro e w1 ⟨rfl, b1⟩
  obtain ⟨x0, x1, x2⟩ := BX.out w1 b1
  have B1 := hid_of (B0.out.trans (b1.mono B0.out.size))
  clear b1
  go_wp2_with fail
  refine (H1.out _ _).mono ?_
  rintro e w2 ⟨rfl, b2⟩
  have B2 := hid_of (B1.out.trans (b2.mono B1.out.size))
  clear b2
  go_wp2_with fail
  refine (HAll.out _).mono ?_
  rintro e w3 ⟨rfl, nn, rfl⟩
  have HS := hid_of (H3.out (w2.drewN nn) ((HH.out.later B2.out).later ⟨rfl, rfl, rfl, Nat.le_refl _, fun _ _ => rfl⟩))
  have B3 : Hid (Below w.heap.size w (w2.drewN nn)) := B2.out.trans ⟨rfl, rfl, rfl, Nat.le_refl _, fun _ _ => rfl⟩
  go_wp2_with fail
  refine HS.out.mono ?_
  rintro e w4 ⟨rfl, b4⟩
  have B4 := hid_of (B3.out.trans (b4.mono B3.out.size))
  clear b4
  go_wp2_with fail
  go_ret
  exact ⟨rfl, B4.out⟩
end Go.Proofs.YtfkilbhhpipjbabGreatDoor.Begins
