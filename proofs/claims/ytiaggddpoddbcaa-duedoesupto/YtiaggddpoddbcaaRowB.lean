/- The row of an index over texts: what lies at its block; Len and Less. -/
import Derived.Test.YtiaggddpoddbcaaBefore
import Derived.Test.YtiaggddpoddbcaaSpots
import Derived.Test.YtiaggddpoddbcaaTurn
import Derived.Maps.OwnSet
import Derived.BigQuiet
import Derived.Deep.RegionHeld3
import Derived.Deep.RegionWith
namespace Go.Proofs.Ytiaggddpoddbcaa.RowB
open Go.RowKit Go.Maps
open Go.Proofs.Ytiaggddpoddbcaa.HeapMath
open Go.Proofs.Ytiaggddpoddbcaa.Heap
open Go.Proofs.Ytiaggddpoddbcaa.Turn
open Go.Proofs.Ytiaggddpoddbcaa.Before
open Go.Proofs.Ytiaggddpoddbcaa.Spots
set_option linter.unusedVariables false
set_option linter.unusedSimpArgs false
abbrev Es := List (Bs × Int)
/- the index's own kinds: the index, entries, a map -/
def DT (n : Nat) : Bool := n == 75 || n == 98 || n == 1
def cS (e : Bs × Int) : List Value := [.string (mk e.1), .int .i64 e.2]
abbrev ptr (b : Nat) : Value := .pointer (some ⟨b, 0, none⟩)
abbrev lS : Bs → Lit := fun k => Lit.string k
structure RowAt (base b : Nat) (ev mv : Value) (l : Es) (w : World) : Prop where
  idx : w.heap[b]? = some (.cells #[ev, mv] 73 (0, 0))
  bb : base ≤ b
  ent : w.ownsRow base 96 2 ev l.length (l.flatMap cS)
  map : (mv = .map none ∧ l = []) ∨ ∃ bm D, mv = .map (some bm) ∧ base ≤ bm ∧ w.ownsMap Try.prog 9 (plainElem Try.prog 3) bm l.length D ∧ Spots lS D l
  keys : Apart l
  wide : ∀ e ∈ l, e.1.length ≤ 281474976710656
def RS (base b : Nat) (w : World) (l : Es) : Prop := ∃ ev mv, RowAt base b ev mv l w
theorem c_len (l : Es) : (l.flatMap cS).length = l.length * 2 := by
  induction l with
  | nil => rfl
  | cons e r ih => simp [cS, ih]; omega
theorem c_get (l : Es) (i : Nat) (h : i < l.length) : (l.flatMap cS)[i * 2]? = some (.string (mk l[i].1)) ∧ (l.flatMap cS)[i * 2 + 1]? = some (.int .i64 l[i].2) := by
  induction l generalizing i with
  | nil => exact absurd h (by simp)
  | cons e r ih =>
    cases i with
    | zero => exact ⟨rfl, rfl⟩
    | succ i =>
      have := ih i (by simpa using h)
      rw [List.flatMap_cons]
      rw [List.getElem?_append_right (by simp [cS]; omega), List.getElem?_append_right (by simp [cS]; omega)]
      rw [show (i + 1) * 2 - (cS e).length = i * 2 by simp [cS]; omega, show (i + 1) * 2 + 1 - (cS e).length = i * 2 + 1 by simp [cS]; omega]
      exact this
theorem row_shape {base : Nat} {w : World} {v : Value} {l : Es} (h : w.ownsRow base 96 2 v l.length (l.flatMap cS)) : ∃ a c, v = .slice a l.length c := by
  rcases h.2 with ⟨rfl, hn⟩ | ⟨g, cap, cur, rfl, _⟩
  · rw [hn]; exact ⟨_, _, rfl⟩
  · exact ⟨_, _, rfl⟩
theorem row_block {base : Nat} {w : World} {v : Value} {l : Es} (h : w.ownsRow base 96 2 v l.length (l.flatMap cS)) (h0 : 0 < l.length) : ∃ g c, v = .slice (some ⟨g, 0, none⟩) l.length c ∧ base ≤ g ∧ ∀ i (hi : i < l.length), w.cell? ⟨g, i * 2, none⟩ = some (.string (mk l[i].1)) ∧ w.cell? ⟨g, i * 2 + 1, none⟩ = some (.int .i64 l[i].2) := by
  have h' := h
  rcases h.2 with ⟨rfl, hn⟩ | ⟨g, cap, cur, rfl, hb, _⟩
  · omega
  · refine ⟨g, cap, rfl, hb, fun i hi => ?_⟩
    have c1 := h'.cells (g := g) rfl (i * 2) _ (c_get l i hi).1
    have c2 := h'.cells (g := g) rfl (i * 2 + 1) _ (c_get l i hi).2
    simp only [Addr.add, Nat.zero_add] at c1 c2
    have e0 : (if i * 2 = 0 then (⟨g, 0, none⟩ : Addr) else ⟨g, i * 2, none⟩) = ⟨g, i * 2, none⟩ := by split <;> simp_all
    exact ⟨by simpa [e0] using c1, by simpa using c2⟩
set_option maxRecDepth 100000 in
theorem len_call {base b : Nat} {l : Es} {w : World} (h : RS base b w l) : Calls Try.prog 46 #[ptr b] w fun e w' => e = .returned (.int .i64 (l.length : Int)) ∧ w' = w := by
  obtain ⟨ev, mv, h⟩ := h
  obtain ⟨a, c, rfl⟩ := row_shape h.ent
  have c0 : w.cell? ⟨b, 0, none⟩ = some (.slice a l.length c) := by simp [World.cell?, h.idx]
  clear h
  go_enter Try.func46, Try.ntmps46
  go_wp2_with fail
  go_ret
  exact ⟨rfl, rfl⟩
set_option maxHeartbeats 2000000 in
set_option maxRecDepth 100000 in
theorem less_call {base b : Nat} {l : Es} {w : World} (h : RS base b w l) (i j : Nat) (hi : i < l.length) (hj : j < l.length) (hb : l.length < 1099511627776) : Calls Try.prog 81 #[ptr b, .int .i64 (i : Int), .int .i64 (j : Int)] w fun e w' => e = .returned (.bool (decide (ltS (pl l i) (pl l j)))) ∧ Below w.heap.size w w' := by
  obtain ⟨ev, mv, h⟩ := h
  obtain ⟨g, c, rfl, _, hc⟩ := row_block h.ent (by omega)
  have c0 : w.cell? ⟨b, 0, none⟩ = some (.slice (some ⟨g, 0, none⟩) l.length c) := by simp [World.cell?, h.idx]
  have HB := hid_of (fun W => beforeS l[i] l[j] W)
  obtain ⟨i0, i1⟩ := hc i hi
  obtain ⟨j0, j1⟩ := hc j hj
  rw [pl_in hi, pl_in hj]
  have HI := hid_of (show eS l[i] = .agg #[.string (mk l[i].1), .int .i64 l[i].2] from rfl)
  rw [show eS l[i] = .agg #[.string (mk l[i].1), .int .i64 l[i].2] from rfl, show eS l[j] = .agg #[.string (mk l[j].1), .int .i64 l[j].2] from rfl] at HB
  generalize decide (ltS l[i] l[j]) = r at *
  generalize mk l[i].1 = ki at *
  generalize mk l[j].1 = kj at *
  generalize l[i].2 = ti at *
  generalize l[j].2 = tj at *
  clear h hc HI
  go_enter Try.func81, Try.ntmps81
  go_wp2_with fail
  go_region_with (first | (go_at_call 80; refine (HB.out _).mono ?_; rintro e w1 ⟨rfl, hbl⟩; have Q := hid_of hbl; clear hbl))
  all_goals
    go_wp2_with fail
    go_ret
    exact ⟨rfl, (Below.refl _ w).drew.trans Q.out⟩
end Go.Proofs.Ytiaggddpoddbcaa.RowB
