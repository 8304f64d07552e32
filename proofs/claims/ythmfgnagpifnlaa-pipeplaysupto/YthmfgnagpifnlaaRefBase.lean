/- The document's own network in memory; has, client, server. -/
import Derived.Test.YthmfgnagpifnlaaSure
namespace Go.Proofs.Ythmfgnagpifnlaa.RefBase
open Go.RowKit
open Go.Proofs.Ythmfgnagpifnlaa.PipeMath
open Go.Proofs.Ythmfgnagpifnlaa.Base
open Go.Proofs.Ythmfgnagpifnlaa.Queue
open Go.Proofs.Ythmfgnagpifnlaa.Queue2
set_option linter.unusedVariables false

def rc (k : Cn) (a : Bool) : List Value := [.string (mk k.sent), .string (mk k.wrote), .int .i64 k.rd, .int .i64 k.tk, .bool a, .bool k.ended, .bool k.closed, .bool k.cut]
structure RK (F : Nat → Prop) (b : Nat) (lv : Value) (xs : List Value) (n : Nt) (w : World) : Prop where
  net : w.heap[b]? = some (.cells #[.int .i64 n.win, lv] 32 (0, 0))
  row : w.ownsRow 0 89 8 lv n.cs.length xs
  is : ∀ i k, n.cs[i]? = some k → ∀ j, j < 8 → xs[i * 8 + j]? = (rc k (decide (i < n.acc)))[j]?
  own : F b
  rown : ∀ g, lv.ownBlock = some g → F g
def RHas (F : Nat → Prop) (b : Nat) (n : Nt) (w : World) : Prop := ∃ lv xs, RK F b lv xs n w
theorem RK.mono {F G : Nat → Prop} {b : Nat} {lv : Value} {xs : List Value} {n : Nt} {w : World} (h : RK F b lv xs n w) (hG : ∀ k, F k → G k) : RK G b lv xs n w := ⟨h.net, h.row, h.is, hG _ h.own, fun g e => hG _ (h.rown g e)⟩
theorem RK.keep {F G : Nat → Prop} {b : Nat} {lv : Value} {xs : List Value} {n : Nt} {w w' : World} (h : RK F b lv xs n w) (he : Fr G w w') (hd : ∀ k, F k → ¬ G k) : RK F b lv xs n w' :=
  ⟨(he.block b (lt_of h.net) (hd _ h.own)).trans h.net, row_later h.row fun g e => by
    obtain ⟨cur, hc⟩ := row_kd h.row e
    exact he.block g (lt_of hc) (hd _ (h.rown g e)), h.is, h.own, h.rown⟩
theorem RK.below {F : Nat → Prop} {b : Nat} {lv : Value} {xs : List Value} {n : Nt} {w w' : World} (h : RK F b lv xs n w) (he : Below w.heap.size w w') : RK F b lv xs n w' := h.keep (G := fun _ => False) (Fr.of_below he) fun _ _ e => e
theorem RK.drewN {F : Nat → Prop} {b : Nat} {lv : Value} {xs : List Value} {n : Nt} {w : World} (h : RK F b lv xs n w) (m : Nat) : RK F b lv xs n (w.drewN m) := h.below ⟨rfl, rfl, rfl, Nat.le_refl _, fun _ _ => rfl⟩
theorem RK.low {F : Nat → Prop} {b : Nat} {lv : Value} {xs : List Value} {n : Nt} {w : World} (h : RK F b lv xs n w) : RK (fun k => F k ∧ k < w.heap.size) b lv xs n w := ⟨h.net, h.row, h.is, ⟨h.own, lt_of h.net⟩, fun g e => ⟨h.rown g e, by
  obtain ⟨cur, hc⟩ := row_kd h.row e
  exact lt_of hc⟩⟩
/- one connection's cells -/
structure RAt (b g cap i : Nat) (lv : Value) (k : Cn) (a : Bool) (n : Nt) (w : World) : Prop where
  lv : lv = .slice (some ⟨g, 0, none⟩) n.cs.length cap
  c0 : w.cell? ⟨b, 0, none⟩ = some (.int .i64 n.win)
  c1 : w.cell? ⟨b, 1, none⟩ = some (.slice (some ⟨g, 0, none⟩) n.cs.length cap)
  cell : ∀ j, j < 8 → w.cell? ⟨g, i * 8 + j, none⟩ = (rc k a)[j]?
  fr : ∀ j, w.frozen? ⟨g, j, none⟩ = false
theorem RK.at {F : Nat → Prop} {b : Nat} {lv : Value} {xs : List Value} {n : Nt} {w : World} (h : RK F b lv xs n w) {i : Nat} {k : Cn} (hk : n.cs[i]? = some k) : ∃ g cap, RAt b g cap i lv k (decide (i < n.acc)) n w := by
  have hr := h.row
  have hil : i < n.cs.length := (List.getElem?_eq_some_iff.1 hk).1
  rcases h.row.2 with ⟨_, h0⟩ | ⟨g, cap, cur, e, _, hg, _⟩
  · omega
  · refine ⟨g, cap, e, Lib.cell_of_heap h.net 0, by rw [← e]; exact Lib.cell_of_heap h.net 1, fun j hj => ?_, fun j => Lib.frozen_of_heap hg j⟩
    have e1 := h.is i k hk j hj
    have hj2 : j < (rc k (decide (i < n.acc))).length := hj
    rw [List.getElem?_eq_getElem hj2] at e1 ⊢
    have := hr.cells (g := g) (by rw [e]; rfl) _ _ e1
    rw [add_off, Nat.zero_add] at this
    exact this
theorem row_set {w : World} {base e sz n g : Nat} {v : Value} {xs : List Value} (h : w.ownsRow base e sz v n xs) (hg : v.ownBlock = some g) (j : Nat) (u : Value) : (w.setCell ⟨g, j, none⟩ u).ownsRow base e sz v n (xs.set j u) := by
  refine ⟨by rw [List.length_set]; exact h.1, ?_⟩
  rcases h.2 with ⟨rfl, _⟩ | ⟨g', cap, cur, rfl, hb, hh, h1, h2, h3, h4⟩
  · simp [Value.ownBlock] at hg
  · obtain rfl : g' = g := by simpa [Value.ownBlock] using hg
    refine Or.inr ⟨g', cap, _, rfl, hb, set_at hh u, h1, h2, by simp [h3], ?_⟩
    rw [← h4, Array.toList_setIfInBounds, List.take_set]
theorem RK.upd {F : Nat → Prop} {b g : Nat} {lv : Value} {xs : List Value} {n n' : Nt} {w : World} (h : RK F b lv xs n w) (hg : lv.ownBlock = some g) {i j : Nat} {k : Cn} {v : Value} (hk : n.cs[i]? = some k) (hj : j < 8) (e1 : n'.win = n.win) (e2 : n'.cs.length = n.cs.length)
    (hi : ∀ k', n'.cs[i]? = some k' → rc k' (decide (i < n'.acc)) = (rc k (decide (i < n.acc))).set j v) (ho : ∀ i', i' ≠ i → n'.cs[i']? = n.cs[i']? ∧ decide (i' < n'.acc) = decide (i' < n.acc)) :
    RK F b lv (xs.set (i * 8 + j) v) n' (w.setCell ⟨g, i * 8 + j, none⟩ v) ∧ Fr F w (w.setCell ⟨g, i * 8 + j, none⟩ v) := by
  obtain ⟨cur, hc⟩ := row_kd h.row hg
  have hil : i < n.cs.length := (List.getElem?_eq_some_iff.1 hk).1
  have hx := h.row.1
  refine ⟨⟨?_, by rw [e2]; exact row_set h.row hg _ _, fun i' k' hk' j' hj' => ?_, h.own, h.rown⟩, Fr.set (h.rown g hg) _⟩
  · rw [e1, set_ne (kinds h.net hc (by decide))]; exact h.net
  · by_cases e : i' = i
    · subst e
      rw [hi k' hk']
      by_cases ej : j' = j
      · subst ej
        rw [List.getElem?_set_self (by rw [hx]; omega), List.getElem?_set_self (by exact hj)]
      · rw [List.getElem?_set_ne (by omega), List.getElem?_set_ne (by omega)]
        exact h.is i' k hk j' hj'
    · obtain ⟨h1, h2⟩ := ho i' e
      rw [List.getElem?_set_ne (by omega), h2]
      rw [h1] at hk'
      exact h.is i' k' hk' j' hj'
set_option maxRecDepth 100000 in
theorem has_call {F : Nat → Prop} {b : Nat} {lv : Value} {xs : List Value} {n : Nt} {w : World} (h : RK F b lv xs n w) (c : Int) : Calls Try.prog 53 #[ptr b, .int .i64 c] w fun e w' => e = .returned (.bool (n.at c).isSome) ∧ w' = w := by
  have c1 : w.cell? ⟨b, 1, none⟩ = some lv := Lib.cell_of_heap h.net 1
  obtain ⟨a, cp, hv⟩ := row_shape h.row
  rw [hv] at c1
  clear h hv
  rcases at_cases n c with ⟨h1, h2⟩ | ⟨i, k, rfl, hi, hk, h1⟩
  · rw [h1]
    show Calls Try.prog 53 #[ptr b, .int .i64 c] w fun e w' => e = .returned (.bool false) ∧ w' = w
    clear h1
    by_cases h0 : 0 ≤ c
    · have h3 : ¬ c < (n.cs.length : Int) := by omega
      go_enter Try.func53, Try.ntmps53
      go_wp2_with fail
      go_ret
      exact ⟨rfl, rfl⟩
    · go_enter Try.func53, Try.ntmps53
      go_wp2_with fail
      go_ret
      exact ⟨rfl, rfl⟩
  · rw [h1]
    show Calls Try.prog 53 #[ptr b, .int .i64 (i : Int)] w fun e w' => e = .returned (.bool true) ∧ w' = w
    have h0 : (0 : Int) ≤ (i : Int) := by omega
    have h3 : (i : Int) < (n.cs.length : Int) := by omega
    clear h1 hk
    go_enter Try.func53, Try.ntmps53
    go_wp2_with fail
    go_ret
    exact ⟨rfl, rfl⟩
section
variable {F : Nat → Prop} {b : Nat} {lv : Value} {xs : List Value} {n : Nt} {w : World}
set_option maxHeartbeats 1000000 in
set_option maxRecDepth 100000 in
theorem client_call (h : RK F b lv xs n w) (c : Int) : Calls Try.prog 52 #[ptr b, .int .i64 c] w fun e w' => e = .returned (.int .i64 (n.sendE c)) ∧ w' = w := by
  have H1 := hid_of (has_call h c)
  rcases at_cases n c with ⟨h1, h2⟩ | ⟨i, k, rfl, hi, hk, h1⟩
  · rw [h1] at H1
    have e1 : n.sendE c = 60 := by unfold Nt.sendE; rw [h1]
    rw [e1]
    simp only [Option.isSome_none] at H1
    clear h h1 h2 e1
    go_enter Try.func52, Try.ntmps52
    go_wp2_with fail
    refine H1.out.mono ?_
    rintro e w1 ⟨rfl, rfl⟩
    go_wp2_with fail
    go_ret
    exact ⟨rfl, rfl⟩
  · rw [h1] at H1
    obtain ⟨g, cap, r⟩ := h.at hk
    have c1 := r.c1
    have x5 : w.cell? ⟨g, i * 8 + 5, none⟩ = some (.bool k.ended) := r.cell 5 (by omega)
    have x6 : w.cell? ⟨g, i * 8 + 6, none⟩ = some (.bool k.closed) := r.cell 6 (by omega)
    have x7 : w.cell? ⟨g, i * 8 + 7, none⟩ = some (.bool k.cut) := r.cell 7 (by omega)
    have h0 : (0 : Int) ≤ (i : Int) := by omega
    have h3 : (i : Int) < (n.cs.length : Int) := by omega
    have e1 : n.sendE (i : Int) = if k.ended || (k.closed || k.cut) then 61 else 0 := by unfold Nt.sendE; rw [h1]; rfl
    rw [e1]
    simp only [Option.isSome_some] at H1
    clear h h1 r hk e1
    cases he : k.ended
    · cases hc : k.closed
      · cases ht : k.cut
        all_goals
          rw [he] at x5
          rw [hc] at x6
          rw [ht] at x7
          clear he hc ht
          go_enter Try.func52, Try.ntmps52
          go_wp2_with fail
          refine H1.out.mono ?_
          rintro e w1 ⟨rfl, rfl⟩
          go_wp2_with fail
          go_ret
          exact ⟨rfl, rfl⟩
      · rw [he] at x5
        rw [hc] at x6
        clear he hc x7
        go_enter Try.func52, Try.ntmps52
        go_wp2_with fail
        refine H1.out.mono ?_
        rintro e w1 ⟨rfl, rfl⟩
        go_wp2_with fail
        go_ret
        exact ⟨rfl, rfl⟩
    · rw [he] at x5
      clear he x6 x7
      go_enter Try.func52, Try.ntmps52
      go_wp2_with fail
      refine H1.out.mono ?_
      rintro e w1 ⟨rfl, rfl⟩
      go_wp2_with fail
      go_ret
      exact ⟨rfl, rfl⟩
set_option maxHeartbeats 1000000 in
set_option maxRecDepth 100000 in
theorem server_call (h : RK F b lv xs n w) (c : Int) : Calls Try.prog 55 #[ptr b, .int .i64 c] w fun e w' => e = .returned (.int .i64 (n.serveE c)) ∧ w' = w := by
  have H1 := hid_of (has_call h c)
  rcases at_cases n c with ⟨h1, h2⟩ | ⟨i, k, rfl, hi, hk, h1⟩
  · rw [h1] at H1
    have e1 : n.serveE c = 60 := by unfold Nt.serveE; rw [h1]
    rw [e1]
    simp only [Option.isSome_none] at H1
    clear h h1 h2 e1
    go_enter Try.func55, Try.ntmps55
    go_wp2_with fail
    refine H1.out.mono ?_
    rintro e w1 ⟨rfl, rfl⟩
    go_wp2_with fail
    go_ret
    exact ⟨rfl, rfl⟩
  · rw [h1] at H1
    obtain ⟨g, cap, r⟩ := h.at hk
    have c1 := r.c1
    have x4 : w.cell? ⟨g, i * 8 + 4, none⟩ = some (.bool (decide (i < n.acc))) := r.cell 4 (by omega)
    have x6 : w.cell? ⟨g, i * 8 + 6, none⟩ = some (.bool k.closed) := r.cell 6 (by omega)
    have x7 : w.cell? ⟨g, i * 8 + 7, none⟩ = some (.bool k.cut) := r.cell 7 (by omega)
    have h0 : (0 : Int) ≤ (i : Int) := by omega
    have h3 : (i : Int) < (n.cs.length : Int) := by omega
    have e1 : n.serveE (i : Int) = if n.acc ≤ i then 60 else if k.closed || k.cut then 61 else 0 := by unfold Nt.serveE; rw [h1]; rfl
    rw [e1]
    simp only [Option.isSome_some] at H1
    clear h h1 r hk e1
    by_cases ha : n.acc ≤ i
    · rw [if_pos ha]
      rw [decide_eq_false (by omega)] at x4
      clear ha x6 x7
      go_enter Try.func55, Try.ntmps55
      go_wp2_with fail
      refine H1.out.mono ?_
      rintro e w1 ⟨rfl, rfl⟩
      go_wp2_with fail
      go_ret
      exact ⟨rfl, rfl⟩
    · rw [if_neg ha]
      rw [decide_eq_true (by omega)] at x4
      clear ha
      cases hc : k.closed
      · cases ht : k.cut
        all_goals
          rw [hc] at x6
          rw [ht] at x7
          clear hc ht
          go_enter Try.func55, Try.ntmps55
          go_wp2_with fail
          refine H1.out.mono ?_
          rintro e w1 ⟨rfl, rfl⟩
          go_wp2_with fail
          go_ret
          exact ⟨rfl, rfl⟩
      · rw [hc] at x6
        clear hc x7
        go_enter Try.func55, Try.ntmps55
        go_wp2_with fail
        refine H1.out.mono ?_
        rintro e w1 ⟨rfl, rfl⟩
        go_wp2_with fail
        go_ret
        exact ⟨rfl, rfl⟩
end
end Go.Proofs.Ythmfgnagpifnlaa.RefBase
