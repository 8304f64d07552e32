/- Next. -/
import Derived.Test.YtfkilbhhpipjbaaGreatDoorReq
namespace Go.Proofs.YtfkilbhhpipjbaaGreatDoor.Next
open Go.RowKit
open Go.Proofs.YtfkilbhhpipjbaaGreatDoor.TextMath
open Go.Proofs.YtfkilbhhpipjbaaGreatDoor.ReqMath
open Go.Proofs.YtfkilbhhpipjbaaGreatDoor.Base
open Go.Proofs.YtfkilbhhpipjbaaGreatDoor.Line
open Go.Proofs.YtfkilbhhpipjbaaGreatDoor.Small
open Go.Proofs.YtfkilbhhpipjbaaGreatDoor.Append
open Go.Proofs.YtfkilbhhpipjbaaGreatDoor.Bulk
open Go.Proofs.YtfkilbhhpipjbaaGreatDoor.Bulk2
open Go.Proofs.YtfkilbhhpipjbaaGreatDoor.BulkAny
open Go.Proofs.YtfkilbhhpipjbaaGreatDoor.SplitC
open Go.Proofs.YtfkilbhhpipjbaaGreatDoor.Typed
open Go.Proofs.YtfkilbhhpipjbaaGreatDoor.Thing
open Go.Proofs.YtfkilbhhpipjbaaGreatDoor.Pend
open Go.Proofs.YtfkilbhhpipjbaaGreatDoor.Req
set_option linter.unusedVariables false

theorem ps_below {b : Nat} {L : Lim} {P : List UInt8} {used : Nat} {lv wv : Value} {w w' : World} (h : PS b L P used lv wv w) (hb : Below w.heap.size w w') : PS b L P used lv wv w' := by
  obtain ⟨t, k, ws, wanted, read, h1, h2⟩ := h
  exact ⟨t, k, ws, wanted, read, rs_below h1 hb, h2⟩
/- the three boxes of Next -/
def boxes (w : World) (b : Nat) : World := ((w.alloc (.cells #[.pointer (some ⟨b, 0, none⟩)] 41)).alloc (.cells #[.slice none 0 0] 33)).alloc (.cells #[.int .i64 0] 3)
theorem boxes_below (w : World) (b : Nat) : Below w.heap.size w (boxes w b) := (((Below.refl _ w).alloc (Nat.le_refl _) _).alloc (by simp) _).alloc (by simp; omega) _
theorem box1 (w : World) (b : Nat) : (boxes w b).heap[w.heap.size]? = some (.cells #[.pointer (some ⟨b, 0, none⟩)] 41 (0, 0)) := by
  show (((w.heap.push _).push _).push _)[w.heap.size]? = _
  simp only [Array.getElem?_push, Array.size_push]
  rw [if_neg (by omega), if_neg (by omega), if_pos trivial]
theorem box2 (w : World) (b : Nat) : (boxes w b).heap[w.heap.size + 1]? = some (.cells #[.slice none 0 0] 33 (0, 0)) := by
  show (((w.heap.push _).push _).push _)[w.heap.size + 1]? = _
  simp only [Array.getElem?_push, Array.size_push]
  rw [if_neg (by omega), if_pos trivial]
theorem box3 (w : World) (b : Nat) : (boxes w b).heap[w.heap.size + 1 + 1]? = some (.cells #[.int .i64 0] 3 (0, 0)) := by
  show (((w.heap.push _).push _).push _)[w.heap.size + 1 + 1]? = _
  simp only [Array.getElem?_push, Array.size_push]
  rw [if_pos trivial]
theorem boxes_size (w : World) (b : Nat) : (boxes w b).heap.size = w.heap.size + 3 := by unfold boxes; simp
def NE (b : Nat) (L : Lim) (P : List UInt8) (used : Nat) (lv wv : Value) (w : World) (e : Ending) (w' : World) : NR → Prop
  | .more k => e = .returned (.tuple #[.slice none 0 0, .int .i64 0]) ∧ ∃ lv' wv', PS b L (P.drop k) (used + k) lv' wv' w' ∧ (∀ g, slBlock lv' = some g → slBlock lv = some g) ∧ (∀ g, wv'.ownBlock = some g → wv.ownBlock = some g ∨ w.heap.size ≤ g) ∧ Fr (FB b wv) w w'
  | .fault k wd => e = .returned (.tuple #[.slice none 0 0, .int .i64 2]) ∧ RB b ⟨0, 0, 0⟩ (.slice none 0 0) 0 (.slice none 0 0) 0 0 (used + k) (mk wd) w' ∧ Fr (FB b wv) w w'
  | .one k ws => ∃ v, e = .returned (.tuple #[v, .int .i64 1]) ∧ WS w' v ws ∧ (∀ g, v.ownBlock = some g → wv.ownBlock = some g ∨ w.heap.size ≤ g) ∧ ∃ lv', PS b L (P.drop k) (used + k) lv' (.slice none 0 0) w' ∧ (∀ g, slBlock lv' = some g → slBlock lv = some g) ∧ Fr (FB b wv) w w'
/- stores into Next's own boxes -/
theorem ps_new {b : Nat} {L : Lim} {P : List UInt8} {used : Nat} {lv wv : Value} {w : World} {p i : Nat} {v : Value} {ty : TypeId} {cs : Array Value} (h : PS b L P used lv wv w) (hp : w.heap[p]? = some (.cells cs ty (0, 0))) (h5 : ty ≠ 5 ∧ ty ≠ 9 ∧ ty ≠ 75) : PS b L P used lv wv (w.setCell ⟨p, i, none⟩ v) := by
  obtain ⟨t, k, ws, wanted, read, h1, h2⟩ := h
  have hb : b ≠ p := by
    rintro rfl
    have h' := h1.rb
    unfold RB at h'
    rw [hp] at h'
    injection h' with h'
    injection h' with q1 q2
    exact h5.2.2 q2
  refine ⟨t, k, ws, wanted, read, ⟨(set_ne hb v).trans h1.rb, h1.sl.later (fun g hg => set_ne ?_ v), ws_later h1.wk (fun g hg => set_ne ?_ v), h1.kl, h1.kn⟩, h2⟩
  · obtain ⟨c, hc⟩ := by_kind h1.sl g hg
    rintro rfl
    rw [hp] at hc
    injection hc with hc
    injection hc with q1 q2
    exact h5.1 q2
  · obtain ⟨c, hc⟩ := owns_kind h1.wk g hg
    rintro rfl
    rw [hp] at hc
    injection hc with hc
    injection hc with q1 q2
    exact h5.2.1 q2
theorem ws_new {w : World} {v : Value} {ws : List (List UInt8)} {p i : Nat} {x : Value} {ty : TypeId} {cs : Array Value} (h : WS w v ws) (hp : w.heap[p]? = some (.cells cs ty (0, 0))) (h9 : ty ≠ 9) : WS (w.setCell ⟨p, i, none⟩ x) v ws := by
  refine ws_later h (fun g hg => set_ne ?_ x)
  obtain ⟨c, hc⟩ := owns_kind h g hg
  rintro rfl
  rw [hp] at hc
  injection hc with hc
  injection hc with q1 q2
  exact h9 q2
theorem fr_new {F : Nat → Prop} {w w' : World} {p i : Nat} {v : Value} (h : Fr F w w') (hp : w.heap.size ≤ p) : Fr F w (w'.setCell ⟨p, i, none⟩ v) := h.set ⟨p, i, none⟩ (Or.inr hp) v
set_option maxHeartbeats 4000000 in
set_option maxRecDepth 100000 in
theorem next_one_call (b : Nat) (L : Lim) (P : List UInt8) (used : Nat) (lv wv : Value) (w : World) (hL : Lok L) (hp : PS b L P used lv wv w) (hz : used + P.length ≤ 67108864) (hh : Has w) (hb8 : 8 ≤ b) (hC : C34 P) :
    Calls Tryz.prog 23 #[.pointer (some ⟨b, 0, none⟩)] w fun e w' => NE b L P used lv wv w e w' (nextS L P) := by
  have hmf : ∀ (fn : Fn) (first cap : Array Value) (w : World), (Instr.makeFunc fn first cap).run Tryz.prog w = .ok (.func fn first cap) w := fun _ _ _ _ => rfl
  have hb1 := boxes_below w b
  have HR := hid_of (request_call b L P used lv wv (boxes w b) hL (ps_below hp hb1) hz (hh.later hb1) hb8 hC)
  have hft : (boxes w b).cell? ⟨b, 9, none⟩ = some (.string ⟨#[]⟩) := by
    obtain ⟨t, k, ws, wanted, read, h1, _⟩ := ps_below hp hb1
    exact h1.rb.cell 9
  have HNB : Hid (b < w.heap.size ∧ ∃ ws, WS w wv ws) := by
    obtain ⟨t, k, ws, wanted, read, h1, _⟩ := hp
    exact ⟨lt_of h1.rb, ws, h1.wk⟩
  have HS1 := hid_of (box1 w b)
  have HS2 := hid_of (box2 w b)
  have HS3 := hid_of (box3 w b)
  have HB1 := hid_of hb1
  have HSZ := hid_of (boxes_size w b)
  have hwf : (boxes w b) = ((w.alloc (.cells #[.pointer (some ⟨b, 0, none⟩)] 41)).alloc (.cells #[.slice none 0 0] 33)).alloc (.cells #[.int .i64 0] 3) := rfl
  cases hn : nextS L P with
  | more k =>
    rw [hn] at HR
    rw [hwf] at hft HR
    clear hp hh hC hb1 hn
    go_enter_defers Tryz.func23, Tryz.ntmps23
    go_wp2_with fail
    refine HR.out.mono ?_
    rw [← hwf]
    rintro e w1 ⟨rfl, lv', wv', q1, q2, q3, q4⟩
    have FRQ := q4
    have hbw : ∀ q, w.heap.size ≤ q → q < w.heap.size + 3 → ¬ FB b wv q := by
      rintro q hq hq2 (rfl | hx)
      · have := HNB.out.1; omega
      · obtain ⟨ws0, hw0⟩ := HNB.out.2
        have := (World.ownsRow.lt hw0 q hx).2
        omega
    have k1 : w1.heap[w.heap.size]? = _ := (FRQ.block w.heap.size (by rw [HSZ.out]; omega) (hbw _ (by omega) (by omega))).trans HS1.out
    have k2 : w1.heap[w.heap.size + 1]? = _ := (FRQ.block (w.heap.size + 1) (by rw [HSZ.out]; omega) (hbw _ (by omega) (by omega))).trans HS2.out
    have k3 : w1.heap[w.heap.size + 1 + 1]? = _ := (FRQ.block (w.heap.size + 1 + 1) (by rw [HSZ.out]; omega) (hbw _ (by omega) (by omega))).trans HS3.out
    refine leaves_cons (f := 40) (args := #[.pointer (some ⟨w.heap.size, 0, none⟩), .pointer (some ⟨w.heap.size + 1, 0, none⟩), .pointer (some ⟨w.heap.size + 1 + 1, 0, none⟩)]) (by simp) (by simp [go_sem]) ?_
    refine (catch_any ⟨w.heap.size, 0, none⟩ ⟨w.heap.size + 1, 0, none⟩ ⟨w.heap.size + 1 + 1, 0, none⟩ b ⟨#[]⟩ 0 [] w1 (fun w' => w' = w1) (by rw [Lib.cell_of_heap k1]; rfl) (give_more b w1) ?_).mono ?_
    · rintro w' rfl
      exact ⟨⟨_, by rw [Lib.cell_of_heap k2]; rfl⟩, ⟨_, by rw [Lib.cell_of_heap k3]; rfl⟩, Lib.frozen_of_heap k2 0, Lib.frozen_of_heap k3 0⟩
    rintro e u' w2 ⟨rfl, rfl, w1', rfl, rfl⟩
    have m2 : ((w1'.setCell ⟨w.heap.size + 1, 0, none⟩ (.slice none 0 0)).setCell ⟨w.heap.size + 1 + 1, 0, none⟩ (.int .i64 0)).cell? ⟨w.heap.size + 1, 0, none⟩ = some (.slice none 0 0) := by
      rw [Lib.cell_of_heap ((set_ne (by omega) _).trans (set_at k2 _))]; rfl
    have m3 : ((w1'.setCell ⟨w.heap.size + 1, 0, none⟩ (.slice none 0 0)).setCell ⟨w.heap.size + 1 + 1, 0, none⟩ (.int .i64 0)).cell? ⟨w.heap.size + 1 + 1, 0, none⟩ = some (.int .i64 0) := by
      rw [Lib.cell_of_heap (set_at ((set_ne (by omega) _).trans k3) _)]; rfl
    refine ⟨.tuple #[.slice none 0 0, .int .i64 0], by simp [results, Tryz.results23, go_sem, m2, m3], rfl, lv', wv', ?_, q2, ?_, ?_⟩
    · exact ps_new (ps_new q1 k2 (by decide)) ((set_ne (by omega) _).trans k3) (by decide)
    · intro g hg
      rcases q3 g hg with x | x
      · exact Or.inl x
      · exact Or.inr (Nat.le_trans HB1.out.size x)
    · exact fr_new (fr_new ((Fr.of_below HB1.out).trans q4) (by omega)) (by omega)
  | fault k wd =>
    have hwne : (mk wd).toList.isEmpty = false := by
      rw [Lib.toList_data]
      show wd.isEmpty = false
      have := next_word P.length P (Nat.le_refl _) k wd hn
      cases wd with
      | nil => exact absurd rfl this
      | cons a b => rfl
    rw [hn] at HR
    rw [hwf] at hft HR
    clear hp hh hC hb1 hn
    go_enter_defers Tryz.func23, Tryz.ntmps23
    go_wp2_with fail
    refine HR.out.mono ?_
    rw [← hwf]
    rintro e w1 ⟨rfl, lv', k', wv', wanted', read', q1, q4⟩
    have FRQ := q4
    have hbw : ∀ q, w.heap.size ≤ q → q < w.heap.size + 3 → ¬ FB b wv q := by
      rintro q hq hq2 (rfl | hx)
      · have := HNB.out.1; omega
      · obtain ⟨ws0, hw0⟩ := HNB.out.2
        have := (World.ownsRow.lt hw0 q hx).2
        omega
    have k1 : w1.heap[w.heap.size]? = _ := (FRQ.block w.heap.size (by rw [HSZ.out]; omega) (hbw _ (by omega) (by omega))).trans HS1.out
    have k2 : w1.heap[w.heap.size + 1]? = _ := (FRQ.block (w.heap.size + 1) (by rw [HSZ.out]; omega) (hbw _ (by omega) (by omega))).trans HS2.out
    have k3 : w1.heap[w.heap.size + 1 + 1]? = _ := (FRQ.block (w.heap.size + 1 + 1) (by rw [HSZ.out]; omega) (hbw _ (by omega) (by omega))).trans HS3.out
    refine leaves_cons (f := 40) (args := #[.pointer (some ⟨w.heap.size, 0, none⟩), .pointer (some ⟨w.heap.size + 1, 0, none⟩), .pointer (some ⟨w.heap.size + 1 + 1, 0, none⟩)]) (by simp) (by simp [go_sem]) ?_
    refine (catch_any ⟨w.heap.size, 0, none⟩ ⟨w.heap.size + 1, 0, none⟩ ⟨w.heap.size + 1 + 1, 0, none⟩ b (mk wd) 2 [] w1 (fun w' => RB b ⟨0, 0, 0⟩ (.slice none 0 0) 0 (.slice none 0 0) 0 0 (used + k) (mk wd) w' ∧ Fr (fun q => q = b) w1 w') (by rw [Lib.cell_of_heap k1]; rfl) (give_fault b L lv' k' wv' wanted' read' (used + k) _ (mk wd) hwne w1 q1) ?_).mono ?_
    · rintro w' ⟨r1, f1⟩
      have j2 : w'.heap[w.heap.size + 1]? = _ := (f1.block _ (lt_of k2) (by have := HNB.out.1; omega)).trans k2
      have j3 : w'.heap[w.heap.size + 1 + 1]? = _ := (f1.block _ (lt_of k3) (by have := HNB.out.1; omega)).trans k3
      exact ⟨⟨_, by rw [Lib.cell_of_heap j2]; rfl⟩, ⟨_, by rw [Lib.cell_of_heap j3]; rfl⟩, Lib.frozen_of_heap j2 0, Lib.frozen_of_heap j3 0⟩
    rintro e u' w2 ⟨rfl, rfl, w1', ⟨r1, f1⟩, rfl⟩
    have j2 : w1'.heap[w.heap.size + 1]? = _ := (f1.block _ (lt_of k2) (by have := HNB.out.1; omega)).trans k2
    have j3 : w1'.heap[w.heap.size + 1 + 1]? = _ := (f1.block _ (lt_of k3) (by have := HNB.out.1; omega)).trans k3
    have m2 : ((w1'.setCell ⟨w.heap.size + 1, 0, none⟩ (.slice none 0 0)).setCell ⟨w.heap.size + 1 + 1, 0, none⟩ (.int .i64 2)).cell? ⟨w.heap.size + 1, 0, none⟩ = some (.slice none 0 0) := by
      rw [Lib.cell_of_heap ((set_ne (by omega) _).trans (set_at j2 _))]; rfl
    have m3 : ((w1'.setCell ⟨w.heap.size + 1, 0, none⟩ (.slice none 0 0)).setCell ⟨w.heap.size + 1 + 1, 0, none⟩ (.int .i64 2)).cell? ⟨w.heap.size + 1 + 1, 0, none⟩ = some (.int .i64 2) := by
      rw [Lib.cell_of_heap (set_at ((set_ne (by omega) _).trans j3) _)]; rfl
    refine ⟨.tuple #[.slice none 0 0, .int .i64 2], by simp [results, Tryz.results23, go_sem, m2, m3], rfl, ?_, ?_⟩
    · have := HNB.out.1
      exact (set_ne (by omega) _).trans ((set_ne (by omega) _).trans r1)
    · exact fr_new (fr_new (((Fr.of_below HB1.out).trans q4).trans (wide1 f1)) (by omega)) (by omega)
  | one k ws =>
    rw [hn] at HR
    rw [hwf] at hft HR
    clear hp hh hC hb1 hn
    go_enter_defers Tryz.func23, Tryz.ntmps23
    go_wp2_with fail
    refine HR.out.mono ?_
    rw [← hwf]
    rintro e w1 ⟨v, rfl, q1, q2, lv', q3, q4, q5⟩
    have FRQ := q5
    have hbw : ∀ q, w.heap.size ≤ q → q < w.heap.size + 3 → ¬ FB b wv q := by
      rintro q hq hq2 (rfl | hx)
      · have := HNB.out.1; omega
      · obtain ⟨ws0, hw0⟩ := HNB.out.2
        have := (World.ownsRow.lt hw0 q hx).2
        omega
    have k1 : w1.heap[w.heap.size]? = _ := (FRQ.block w.heap.size (by rw [HSZ.out]; omega) (hbw _ (by omega) (by omega))).trans HS1.out
    have k2 : w1.heap[w.heap.size + 1]? = _ := (FRQ.block (w.heap.size + 1) (by rw [HSZ.out]; omega) (hbw _ (by omega) (by omega))).trans HS2.out
    have k3 : w1.heap[w.heap.size + 1 + 1]? = _ := (FRQ.block (w.heap.size + 1 + 1) (by rw [HSZ.out]; omega) (hbw _ (by omega) (by omega))).trans HS3.out
    have hf : ∃ a n c, v = .slice a n c := by
      rcases ws_form q1 with ⟨h1, h2⟩ | ⟨g, cap, h1⟩
      · exact ⟨none, 0, 0, h1⟩
      · exact ⟨_, _, _, h1⟩
    obtain ⟨a, n, c, rfl⟩ := hf
    have c2 : w1.cell? ⟨w.heap.size + 1, 0, none⟩ = some (.slice none 0 0) := by rw [Lib.cell_of_heap k2]; rfl
    have c3 : w1.cell? ⟨w.heap.size + 1 + 1, 0, none⟩ = some (.int .i64 0) := by rw [Lib.cell_of_heap k3]; rfl
    have f2 : w1.frozen? ⟨w.heap.size + 1, 0, none⟩ = false := Lib.frozen_of_heap k2 0
    have f3 : w1.frozen? ⟨w.heap.size + 1 + 1, 0, none⟩ = false := Lib.frozen_of_heap k3 0
    have HE := hid_of (And.intro q1 (And.intro q2 (And.intro q3 (And.intro q4 (And.intro q5 (And.intro k2 k3))))))
    clear q1 q2 q3 q4 q5 k1 k2 k3 FRQ hbw
    go_wp2_with fail
    obtain ⟨q1, q2, q3, q4, q5, k2, k3⟩ := HE.out
    refine leaves_cons (f := 40) (args := #[.pointer (some ⟨w.heap.size, 0, none⟩), .pointer (some ⟨w.heap.size + 1, 0, none⟩), .pointer (some ⟨w.heap.size + 1 + 1, 0, none⟩)]) (by simp) (by simp [go_sem]) ?_
    refine (catch_idle ⟨w.heap.size, 0, none⟩ ⟨w.heap.size + 1, 0, none⟩ ⟨w.heap.size + 1 + 1, 0, none⟩ _).mono ?_
    rintro e u' w2 ⟨rfl, rfl, rfl⟩
    have m2 : ((w1.setCell ⟨w.heap.size + 1, 0, none⟩ (.slice a n c)).setCell ⟨w.heap.size + 1 + 1, 0, none⟩ (.int .i64 1)).cell? ⟨w.heap.size + 1, 0, none⟩ = some (.slice a n c) := by
      rw [Lib.cell_of_heap ((set_ne (by omega) _).trans (set_at k2 _))]; rfl
    have m3 : ((w1.setCell ⟨w.heap.size + 1, 0, none⟩ (.slice a n c)).setCell ⟨w.heap.size + 1 + 1, 0, none⟩ (.int .i64 1)).cell? ⟨w.heap.size + 1 + 1, 0, none⟩ = some (.int .i64 1) := by
      rw [Lib.cell_of_heap (set_at ((set_ne (by omega) _).trans k3) _)]; rfl
    refine ⟨.tuple #[.slice a n c, .int .i64 1], by simp [results, Tryz.results23, go_sem, m2, m3], _, rfl, ?_, ?_, lv', ?_, q4, ?_⟩
    · exact ws_new (ws_new q1 k2 (by decide)) ((set_ne (by omega) _).trans k3) (by decide)
    · intro g hg
      rcases q2 g hg with x | x
      · exact Or.inl x
      · exact Or.inr (Nat.le_trans HB1.out.size x)
    · exact ps_new (ps_new q3 k2 (by decide)) ((set_ne (by omega) _).trans k3) (by decide)
    · exact fr_new (fr_new ((Fr.of_below HB1.out).trans q5) (by omega)) (by omega)
end Go.Proofs.YtfkilbhhpipjbaaGreatDoor.Next
