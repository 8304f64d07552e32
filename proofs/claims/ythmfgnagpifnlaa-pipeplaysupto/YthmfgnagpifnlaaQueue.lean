/- The queue's calls: left, all, passed, put, pass, drop; shut; slices.Clone. -/
import Derived.Test.YthmfgnagpifnlaaBase
namespace Go.Proofs.Ythmfgnagpifnlaa.Queue
open Go.RowKit
open Go.Proofs.Ythmfgnagpifnlaa.PipeMath
open Go.Proofs.Ythmfgnagpifnlaa.Base
set_option linter.unusedVariables false

theorem cells_get (t : Bs) (j : Nat) (hj : j < t.length) : (tx t)[j]? = some (.int .u8 (t[j].toNat : Int)) := by
  show (t.toArray.toList.map _)[j]? = _
  simp [hj]
theorem conv_run {base : Nat} {w : World} {v : Value} {t : Bs} (h : w.ownsRow base 5 1 v t.length (tx t)) : (convert 74 9 v).run Try.prog w = .ok (.string (mk t)) w := by
  have h' := h
  rcases h.2 with ⟨rfl, hn⟩ | ⟨g, cap, cur, rfl, _⟩
  · have : t = [] := List.length_eq_zero_iff.1 hn
    subst this
    exact run_convert_bytes_nil (P := Try.prog) w 74 5 Try.underlying74 Try.underlying5 0 0 9 Try.underlying9
  · exact run_convert_bytes_back w 74 9 5 ⟨g, 0, none⟩ cap t Try.underlying74 Try.underlying5 Try.underlying9 (fun j hj => h'.cells (g := g) rfl j _ (cells_get t j hj))
abbrev qp (f o : Nat) : Value := .pointer (some ⟨f, o, none⟩)
set_option maxRecDepth 100000 in
theorem left_call (f o : Nat) (a : Option Addr) (n c g : Nat) (w : World) (hg : g ≤ n) (hn : n ≤ 281474976710656) (c0 : w.cell? ⟨f, o, none⟩ = some (.slice a n c)) (c1 : w.cell? ⟨f, o + 1, none⟩ = some (.int .i64 g)) :
    Calls Try.prog 42 #[qp f o] w fun e w' => e = .returned (.int .i64 ((n - g : Nat) : Int)) ∧ ∃ m, w' = w.drewN m := by
  have e1 : IntKind.i64.wrap ((n : Int) - (g : Int)) = (n : Int) - (g : Int) := IntWalk.i64_in _ (by omega)
  go_enter Try.func42, Try.ntmps42
  go_wp2_with fail
  go_quiet (fail)
  go_wp2_with fail
  go_ret
  exact ⟨by rw [Int.ofNat_sub hg]; rfl, _, rfl⟩
set_option maxRecDepth 100000 in
theorem shut_call (f : Nat) (x y : Bool) (w : World) (c5 : w.cell? ⟨f, 5, none⟩ = some (.bool x)) (c6 : w.cell? ⟨f, 6, none⟩ = some (.bool y)) :
    Calls Try.prog 43 #[ptr f] w fun e w' => e = .returned (.bool (x || y)) ∧ w' = w := by
  cases x
  · go_enter Try.func43, Try.ntmps43
    go_wp2_with fail
    go_ret
    exact ⟨rfl, rfl⟩
  · go_enter Try.func43, Try.ntmps43
    go_wp2_with fail
    go_ret
    exact ⟨rfl, rfl⟩
set_option maxRecDepth 100000 in
theorem all_call (f o : Nat) (v : Value) (t : Bs) (w : World) (c0 : w.cell? ⟨f, o, none⟩ = some v) (hr : w.ownsRow 0 5 1 v t.length (tx t)) :
    Calls Try.prog 44 #[qp f o] w fun e w' => e = .returned (.string (mk t)) ∧ w' = w := by
  have hc := conv_run hr
  obtain ⟨a, c, rfl⟩ := row_shape hr
  clear hr
  go_enter Try.func44, Try.ntmps44
  go_wp2_with fail
  go_ret
  exact ⟨rfl, rfl⟩

theorem und74 : Try.prog.underlying 74 = some (.slice (Try.prog.elem 74)) := by kernel_rfl
theorem el74 : Try.prog.elem 74 = 5 := by kernel_rfl
theorem add_off (g o j : Nat) : (⟨g, o, none⟩ : Addr).add j = ⟨g, o + j, none⟩ := by
  unfold Addr.add
  split
  · rename_i h; rw [h]; rfl
  · rfl
/- the piece of a row from one place to another, and its text -/
theorem cut_run {w : World} {v : Value} {t : Bs} (h : w.ownsRow 0 5 1 v t.length (tx t)) {lo hi : Nat} (h1 : lo ≤ hi) (h2 : hi ≤ t.length) :
    ∃ a c, (∀ W, (Instr.slice 74 v (some (.int .i64 (lo : Int))) (some (.int .i64 (hi : Int))) none).run Try.prog W = .ok (.slice a (hi - lo) c) W) ∧
      ∀ W : World, (∀ g, v.ownBlock = some g → W.heap[g]? = w.heap[g]?) → (convert 74 9 (.slice a (hi - lo) c)).run Try.prog W = .ok (.string (mk ((t.drop lo).take (hi - lo)))) W := by
  have h' := h
  rcases h.2 with ⟨rfl, hn⟩ | ⟨g, cap, cur, rfl, hb, hg, h3, h4, h5, h6⟩
  · have e1 : t = [] := List.length_eq_zero_iff.1 hn
    subst e1
    have e2 : hi = 0 := by simpa using h2
    subst e2
    have e3 : lo = 0 := by omega
    subst e3
    refine ⟨none, 0, fun W => ?_, fun W _ => run_convert_bytes_nil (P := Try.prog) W 74 5 Try.underlying74 Try.underlying5 0 0 9 Try.underlying9⟩
    rw [run_slice_lh (P := Try.prog) W 74 none 0 0 und74 .i64 .i64 ((0 : Nat) : Int) ((0 : Nat) : Int) (by omega) (by omega) (by omega), el74, Try.sizeOf5]
    rfl
  · by_cases e : cap = lo
    · refine ⟨some ⟨g, 0, none⟩, 0, fun W => ?_, fun W hW => ?_⟩
      · rw [run_slice_lh (P := Try.prog) W 74 (some ⟨g, 0, none⟩) t.length cap und74 .i64 .i64 (lo : Int) (hi : Int) (by omega) (by omega) (by omega), el74, Try.sizeOf5]
        show Result.ok (sliced _ lo hi cap 1) W = _
        unfold sliced
        rw [if_pos e, e, Nat.sub_self]
      · have e2 : hi - lo = 0 := by omega
        rw [e2]
        exact run_convert_bytes_back W 74 9 5 ⟨g, 0, none⟩ 0 [] Try.underlying74 Try.underlying5 Try.underlying9 (fun j hj => by simp at hj)
    · refine ⟨some ⟨g, lo, none⟩, cap - lo, fun W => ?_, fun W hW => ?_⟩
      · rw [run_slice_lh (P := Try.prog) W 74 (some ⟨g, 0, none⟩) t.length cap und74 .i64 .i64 (lo : Int) (hi : Int) (by omega) (by omega) (by omega), el74, Try.sizeOf5]
        show Result.ok (sliced _ lo hi cap 1) W = _
        unfold sliced
        rw [if_neg e]
        simp [add_off]
      · have hl : ((t.drop lo).take (hi - lo)).length = hi - lo := by rw [List.length_take, List.length_drop]; omega
        have := run_convert_bytes_back W 74 9 5 ⟨g, lo, none⟩ (cap - lo) ((t.drop lo).take (hi - lo)) Try.underlying74 Try.underlying5 Try.underlying9 (fun j hj => by
          rw [hl] at hj
          have hc := (row_later h' (w' := W) hW).cells (g := g) rfl (lo + j) _ (cells_get t (lo + j) (by omega))
          rw [add_off] at hc ⊢
          rw [Nat.zero_add] at hc
          rw [hc]
          simp)
        rw [hl] at this
        exact this
theorem cut_run0 {w : World} {v : Value} {t : Bs} (h : w.ownsRow 0 5 1 v t.length (tx t)) {hi : Nat} (h2 : hi ≤ t.length) :
    ∃ a c, (∀ W, (Instr.slice 74 v none (some (.int .i64 (hi : Int))) none).run Try.prog W = .ok (.slice a hi c) W) ∧
      (∀ W : World, (∀ g, v.ownBlock = some g → W.heap[g]? = w.heap[g]?) → (convert 74 9 (.slice a hi c)).run Try.prog W = .ok (.string (mk (t.take hi))) W) ∧
      ((a = none ∧ t = []) ∨ ∃ g, a = some ⟨g, 0, none⟩ ∧ v.ownBlock = some g) := by
  have h' := h
  rcases h.2 with ⟨rfl, hn⟩ | ⟨g, cap, cur, rfl, hb, hg, h3, h4, h5, h6⟩
  · have e1 : t = [] := List.length_eq_zero_iff.1 hn
    subst e1
    have e2 : hi = 0 := by simpa using h2
    subst e2
    refine ⟨none, 0, fun W => ?_, fun W _ => run_convert_bytes_nil (P := Try.prog) W 74 5 Try.underlying74 Try.underlying5 0 0 9 Try.underlying9, Or.inl ⟨rfl, rfl⟩⟩
    rw [run_slice_h (P := Try.prog) W 74 none 0 0 und74 .i64 ((0 : Nat) : Int) (by omega) (by omega), el74, Try.sizeOf5]
    rfl
  · refine ⟨some ⟨g, 0, none⟩, cap, fun W => ?_, fun W hW => ?_, Or.inr ⟨g, rfl, rfl⟩⟩
    · rw [run_slice_h (P := Try.prog) W 74 (some ⟨g, 0, none⟩) t.length cap und74 .i64 (hi : Int) (by omega) (by omega), el74, Try.sizeOf5]
      show Result.ok (sliced _ 0 ((hi : Int)).toNat cap 1) W = _
      unfold sliced
      by_cases e : cap = 0
      · simp [e]
      · simp [Addr.add]
    · have hl : (t.take hi).length = hi := by rw [List.length_take]; omega
      have := run_convert_bytes_back W 74 9 5 ⟨g, 0, none⟩ cap (t.take hi) Try.underlying74 Try.underlying5 Try.underlying9 (fun j hj => by
        rw [hl] at hj
        have hc := (row_later h' (w' := W) hW).cells (g := g) rfl j _ (cells_get t j (by omega))
        rw [hc]
        simp)
      rw [hl] at this
      exact this
set_option maxRecDepth 100000 in
theorem passed_call (f o : Nat) (v : Value) (t : Bs) (g : Nat) (w : World) (hg : g ≤ t.length) (c0 : w.cell? ⟨f, o, none⟩ = some v) (c1 : w.cell? ⟨f, o + 1, none⟩ = some (.int .i64 g)) (hr : w.ownsRow 0 5 1 v t.length (tx t)) :
    Calls Try.prog 45 #[qp f o] w fun e w' => e = .returned (.string (mk (t.take g))) ∧ ∃ m, w' = w.drewN m := by
  obtain ⟨a, c, hs, hc, -⟩ := cut_run0 hr hg
  have hc2 := hc w.drew (fun _ _ => rfl)
  obtain ⟨a1, c1', rfl⟩ := row_shape hr
  clear hr hc
  go_enter Try.func45, Try.ntmps45
  go_wp2_with fail
  go_region
  go_wp2_with fail
  go_ret
  exact ⟨rfl, 1, rfl⟩
end Go.Proofs.Ythmfgnagpifnlaa.Queue
