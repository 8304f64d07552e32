/- The row of an index over texts: what lies at its block; Len and Less. Raw: Swap of an index's row over texts. Swap of an index's row over texts. Raw: Pop of an index's row over texts. Pop of an index's row over texts. -/
import Derived.Test.YtminfpkigenahaaGreatDoorBaseM
import Derived.Maps.OwnSet
import Derived.BigQuiet
import Derived.Deep.RegionHeld3
import Derived.Deep.RegionWith
import Derived.BigRegion
import Derived.Lib.Builder
section
namespace Go.Proofs.YtminfpkigenahaaGreatDoor.RowB
open Go.RowKit Go.Maps
open Go.Proofs.YtminfpkigenahaaGreatDoor.HeapMath
open Go.Proofs.YtminfpkigenahaaGreatDoor.Heap
open Go.Proofs.YtminfpkigenahaaGreatDoor.Turn
open Go.Proofs.YtminfpkigenahaaGreatDoor.Before
open Go.Proofs.YtminfpkigenahaaGreatDoor.Base (mk mk_list)
open Go.Proofs.YtminfpkigenahaaGreatDoor.Spots
set_option linter.unusedVariables false
set_option linter.unusedSimpArgs false
abbrev Es := List (Bs × Int)
def cS (e : Bs × Int) : List Value := [.string (mk e.1), .int .i64 e.2]
abbrev ptr (b : Nat) : Value := .pointer (some ⟨b, 0, none⟩)
abbrev lS : Bs → Lit := fun k => Lit.string k
structure RowAt (M : Nat → Prop) (b : Nat) (ev mv : Value) (l : Es) (w : World) : Prop where
  idx : w.heap[b]? = some (.cells #[ev, mv] 90 (0, 0))
  bb : M b
  ent : w.ownsRow 0 96 2 ev l.length (l.flatMap cS)
  map : (mv = .map none ∧ l = []) ∨ ∃ bm D, mv = .map (some bm) ∧ M bm ∧ w.ownsMap Tryz.prog 9 (plainElem Tryz.prog 3) bm l.length D ∧ Spots lS D l
  keys : Apart l
  wide : ∀ e ∈ l, e.1.length ≤ 281474976710656
  eb : ∀ g, ev.ownBlock = some g → M g
  up : ∀ k, w.heap.size ≤ k → M k
def RS (M : Nat → Prop) (b : Nat) (w : World) (l : Es) : Prop := ∃ ev mv, RowAt M b ev mv l w
theorem c_len (l : Es) : (l.flatMap cS).length = l.length * 2 := by
  induction l with
  | nil => rfl
  | cons e r ih => simp [cS, ih]; omega
theorem c_get (l : Es) (i : Nat) (h : i < l.length) : (l.flatMap cS)[i * 2]? = some (.string (mk l[i].1)) ∧ (l.flatMap cS)[i * 2 + 1]? = some (.int .i64 l[i].2) := by
  induction l generalizing i with
  | nil => exact absurd h (by simp)
  | cons e r ih =>
    cases i with
    | zero => exact ⟨rfl, rfl⟩
    | succ i =>
      have := ih i (by simpa using h)
      rw [List.flatMap_cons]
      rw [List.getElem?_append_right (by simp [cS]; omega), List.getElem?_append_right (by simp [cS]; omega)]
      rw [show (i + 1) * 2 - (cS e).length = i * 2 by simp [cS]; omega, show (i + 1) * 2 + 1 - (cS e).length = i * 2 + 1 by simp [cS]; omega]
      exact this
theorem row_shape {base : Nat} {w : World} {v : Value} {l : Es} (h : w.ownsRow base 96 2 v l.length (l.flatMap cS)) : ∃ a c, v = .slice a l.length c := by
  rcases h.2 with ⟨rfl, hn⟩ | ⟨g, cap, cur, rfl, _⟩
  · rw [hn]; exact ⟨_, _, rfl⟩
  · exact ⟨_, _, rfl⟩
theorem row_block {base : Nat} {w : World} {v : Value} {l : Es} (h : w.ownsRow base 96 2 v l.length (l.flatMap cS)) (h0 : 0 < l.length) : ∃ g c, v = .slice (some ⟨g, 0, none⟩) l.length c ∧ base ≤ g ∧ ∀ i (hi : i < l.length), w.cell? ⟨g, i * 2, none⟩ = some (.string (mk l[i].1)) ∧ w.cell? ⟨g, i * 2 + 1, none⟩ = some (.int .i64 l[i].2) := by
  have h' := h
  rcases h.2 with ⟨rfl, hn⟩ | ⟨g, cap, cur, rfl, hb, _⟩
  · omega
  · refine ⟨g, cap, rfl, hb, fun i hi => ?_⟩
    have c1 := h'.cells (g := g) rfl (i * 2) _ (c_get l i hi).1
    have c2 := h'.cells (g := g) rfl (i * 2 + 1) _ (c_get l i hi).2
    simp only [Addr.add, Nat.zero_add] at c1 c2
    have e0 : (if i * 2 = 0 then (⟨g, 0, none⟩ : Addr) else ⟨g, i * 2, none⟩) = ⟨g, i * 2, none⟩ := by split <;> simp_all
    exact ⟨by simpa [e0] using c1, by simpa using c2⟩
set_option maxRecDepth 100000 in
theorem len_call {M : Nat → Prop} {b : Nat} {l : Es} {w : World} (h : RS M b w l) : Calls Tryz.prog 216 #[ptr b] w fun e w' => e = .returned (.int .i64 (l.length : Int)) ∧ w' = w := by
  obtain ⟨ev, mv, h⟩ := h
  obtain ⟨a, c, rfl⟩ := row_shape h.ent
  have c0 : w.cell? ⟨b, 0, none⟩ = some (.slice a l.length c) := by simp [World.cell?, h.idx]
  clear h
  go_enter Tryz.func216, Tryz.ntmps216
  go_wp2_with fail
  go_ret
  exact ⟨rfl, rfl⟩
set_option maxHeartbeats 2000000 in
set_option maxRecDepth 100000 in
theorem less_call {M : Nat → Prop} {b : Nat} {l : Es} {w : World} (h : RS M b w l) (i j : Nat) (hi : i < l.length) (hj : j < l.length) (hb : l.length < 1099511627776) : Calls Tryz.prog 218 #[ptr b, .int .i64 (i : Int), .int .i64 (j : Int)] w fun e w' => e = .returned (.bool (decide (ltS (pl l i) (pl l j)))) ∧ Below w.heap.size w w' := by
  obtain ⟨ev, mv, h⟩ := h
  obtain ⟨g, c, rfl, _, hc⟩ := row_block h.ent (by omega)
  have c0 : w.cell? ⟨b, 0, none⟩ = some (.slice (some ⟨g, 0, none⟩) l.length c) := by simp [World.cell?, h.idx]
  have HB := hid_of (fun W => beforeS l[i] l[j] W)
  obtain ⟨i0, i1⟩ := hc i hi
  obtain ⟨j0, j1⟩ := hc j hj
  rw [pl_in hi, pl_in hj]
  have HI := hid_of (show eS l[i] = .agg #[.string (mk l[i].1), .int .i64 l[i].2] from rfl)
  rw [show eS l[i] = .agg #[.string (mk l[i].1), .int .i64 l[i].2] from rfl, show eS l[j] = .agg #[.string (mk l[j].1), .int .i64 l[j].2] from rfl] at HB
  generalize decide (ltS l[i] l[j]) = r at *
  generalize mk l[i].1 = ki at *
  generalize mk l[j].1 = kj at *
  generalize l[i].2 = ti at *
  generalize l[j].2 = tj at *
  clear h hc HI
  go_enter Tryz.func218, Tryz.ntmps218
  go_wp2_with fail
  go_region_with (first | (go_at_call 217; refine (HB.out _).mono ?_; rintro e w1 ⟨rfl, hbl⟩; have Q := hid_of hbl; clear hbl))
  all_goals
    go_wp2_with fail
    go_ret
    exact ⟨rfl, (Below.refl _ w).drew.trans Q.out⟩
end Go.Proofs.YtminfpkigenahaaGreatDoor.RowB
end
section
namespace Go.Proofs.YtminfpkigenahaaGreatDoor.SwapR
open Go.RowKit Go.Maps
open Go.Proofs.YtminfpkigenahaaGreatDoor.HeapMath
open Go.Proofs.YtminfpkigenahaaGreatDoor.Heap
open Go.Proofs.YtminfpkigenahaaGreatDoor.Turn
open Go.Proofs.YtminfpkigenahaaGreatDoor.Before
open Go.Proofs.YtminfpkigenahaaGreatDoor.Base (mk mk_list)
open Go.Proofs.YtminfpkigenahaaGreatDoor.Spots
open Go.Proofs.YtminfpkigenahaaGreatDoor.RowB
set_option linter.unusedVariables false
set_option linter.unusedSimpArgs false
set_option maxHeartbeats 4000000 in
set_option maxRecDepth 100000 in
theorem swap_raw (b g n c i j : Nat) (w W1 W2 W3 : World) (ki kj : ByteArray) (ti tj : Int) (hi : i < n) (hj : j < n) (hn : n < 1099511627776) (mb : Option Nat) (hbg : b ≠ g) (hij : i ≠ j)
    (c0 : w.cell? ⟨b, 0, none⟩ = some (.slice (some ⟨g, 0, none⟩) n c)) 
    (i0 : w.cell? ⟨g, i * 2, none⟩ = some (.string ki)) (i1 : w.cell? ⟨g, i * 2 + 1, none⟩ = some (.int .i64 ti)) (j0 : w.cell? ⟨g, j * 2, none⟩ = some (.string kj)) (j1 : w.cell? ⟨g, j * 2 + 1, none⟩ = some (.int .i64 tj))
    (fi0 : w.frozen? ⟨g, i * 2, none⟩ = false) (fi1 : w.frozen? ⟨g, i * 2 + 1, none⟩ = false) (fj0 : w.frozen? ⟨g, j * 2, none⟩ = false) (fj1 : w.frozen? ⟨g, j * 2 + 1, none⟩ = false)
    (HW : Hid (((((w.setCell ⟨g, i * 2, none⟩ (.string kj)).setCell ⟨g, i * 2 + 1, none⟩ (.int .i64 tj)).setCell ⟨g, j * 2, none⟩ (.string ki)).setCell ⟨g, j * 2 + 1, none⟩ (.int .i64 ti)).drew = W1))
    (H1 : Hid (W1.cell? ⟨b, 0, none⟩ = some (.slice (some ⟨g, 0, none⟩) n c) ∧ W1.cell? ⟨b, 1, none⟩ = some (.map mb) ∧ W1.cell? ⟨g, i * 2, none⟩ = some (.string kj) ∧ (Instr.mapUpdate 86 (.map mb) (.string kj) (.int .i64 (i : Int))).run Tryz.prog W1.drew = .ok () W2))
    (H2 : Hid (W2.cell? ⟨b, 0, none⟩ = some (.slice (some ⟨g, 0, none⟩) n c) ∧ W2.cell? ⟨b, 1, none⟩ = some (.map mb) ∧ W2.cell? ⟨g, j * 2, none⟩ = some (.string ki) ∧ (Instr.mapUpdate 86 (.map mb) (.string ki) (.int .i64 (j : Int))).run Tryz.prog W2.drew = .ok () W3)) : Calls Tryz.prog 221 #[.pointer (some ⟨b, 0, none⟩), .int .i64 (i : Int), .int .i64 (j : Int)] w fun e w' => e = .returned (.tuple #[]) ∧ w' = W3 := by
  go_enter Tryz.func221, Tryz.ntmps221
  go_wp2_with fail
  go_region
  rw [HW.out]
  clear c0 i0 i1 j0 j1 fi0 fi1 fj0 fj1 HW
  obtain ⟨c0, c1, i0, hu⟩ := H1.out
  go_wp2_with fail
  go_region
  clear c0 c1 i0 hu
  obtain ⟨c0, c1, j0, hu⟩ := H2.out
  go_wp2_with fail
  go_region
  go_end0
  exact ⟨rfl, rfl⟩
set_option maxHeartbeats 4000000 in
set_option maxRecDepth 100000 in
theorem swap_raw1 (b g n c i : Nat) (w W1 W2 W3 : World) (ki : ByteArray) (ti : Int) (hi : i < n) (hn : n < 1099511627776) (mb : Option Nat) (hbg : b ≠ g)
    (c0 : w.cell? ⟨b, 0, none⟩ = some (.slice (some ⟨g, 0, none⟩) n c)) 
    (i0 : w.cell? ⟨g, i * 2, none⟩ = some (.string ki)) (i1 : w.cell? ⟨g, i * 2 + 1, none⟩ = some (.int .i64 ti))
    (fi0 : w.frozen? ⟨g, i * 2, none⟩ = false) (fi1 : w.frozen? ⟨g, i * 2 + 1, none⟩ = false)
    (q0 : (w.setCell ⟨g, i * 2, none⟩ (.string ki)).cell? ⟨g, i * 2, none⟩ = some (.string ki)) (q1 : (w.setCell ⟨g, i * 2 + 1, none⟩ (.int .i64 ti)).cell? ⟨g, i * 2 + 1, none⟩ = some (.int .i64 ti))
    (HW : Hid (((((w.setCell ⟨g, i * 2, none⟩ (.string ki)).setCell ⟨g, i * 2 + 1, none⟩ (.int .i64 ti)).setCell ⟨g, i * 2, none⟩ (.string ki)).setCell ⟨g, i * 2 + 1, none⟩ (.int .i64 ti)).drew = W1))
    (H1 : Hid (W1.cell? ⟨b, 0, none⟩ = some (.slice (some ⟨g, 0, none⟩) n c) ∧ W1.cell? ⟨b, 1, none⟩ = some (.map mb) ∧ W1.cell? ⟨g, i * 2, none⟩ = some (.string ki) ∧ (Instr.mapUpdate 86 (.map mb) (.string ki) (.int .i64 (i : Int))).run Tryz.prog W1.drew = .ok () W2))
    (H2 : Hid (W2.cell? ⟨b, 0, none⟩ = some (.slice (some ⟨g, 0, none⟩) n c) ∧ W2.cell? ⟨b, 1, none⟩ = some (.map mb) ∧ W2.cell? ⟨g, i * 2, none⟩ = some (.string ki) ∧ (Instr.mapUpdate 86 (.map mb) (.string ki) (.int .i64 (i : Int))).run Tryz.prog W2.drew = .ok () W3)) : Calls Tryz.prog 221 #[.pointer (some ⟨b, 0, none⟩), .int .i64 (i : Int), .int .i64 (i : Int)] w fun e w' => e = .returned (.tuple #[]) ∧ w' = W3 := by
  go_enter Tryz.func221, Tryz.ntmps221
  go_wp2_with fail
  go_region
  rw [HW.out]
  clear c0 i0 i1 fi0 fi1 HW
  obtain ⟨c0, c1, i0, hu⟩ := H1.out
  go_wp2_with fail
  go_region
  clear c0 c1 i0 hu
  obtain ⟨c0, c1, j0, hu⟩ := H2.out
  go_wp2_with fail
  go_region
  go_end0
  exact ⟨rfl, rfl⟩
end Go.Proofs.YtminfpkigenahaaGreatDoor.SwapR
end
section
namespace Go.Proofs.YtminfpkigenahaaGreatDoor.Swap
open Go.RowKit Go.Maps
open Go.Proofs.YtminfpkigenahaaGreatDoor.HeapMath
open Go.Proofs.YtminfpkigenahaaGreatDoor.Heap
open Go.Proofs.YtminfpkigenahaaGreatDoor.Turn
open Go.Proofs.YtminfpkigenahaaGreatDoor.Before
open Go.Proofs.YtminfpkigenahaaGreatDoor.Base (mk mk_list)
open Go.Proofs.YtminfpkigenahaaGreatDoor.Spots
open Go.Proofs.YtminfpkigenahaaGreatDoor.RowB
open Go.Proofs.YtminfpkigenahaaGreatDoor.SwapR
set_option linter.unusedVariables false
set_option linter.unusedSimpArgs false
theorem owns_norm {w : World} {b n : Nat} {D : DataW Unit} {R : Value → Option (DataW Unit × List MemPlace)} (h : w.ownsMap Tryz.prog 9 R b n D) : w.ownsMap Tryz.prog 9 R b (Maps.size D) D := by
  obtain ⟨es, c, hb, F, hs, hD⟩ := h
  refine ⟨es, c, hb, F, ?_, hD⟩
  rw [hD]
  simp [Maps.size, length_sorted]
theorem law9 : Keyed Tryz.prog 9 := string_keyed Tryz.underlying9
theorem mk_size (k : Bs) : (mk k).size = k.length := by simp [mk, ByteArray.size]
theorem key9 (k : Bs) (h : k.length ≤ 281474976710656) : keyOf Tryz.prog 9 (.string (mk k)) = some (lS k) := WideMaps.keyOf_string_mk (P := Tryz.prog) (s := mk k) Tryz.underlying9 (by rw [mk_size]; unfold maxLen; omega)
theorem val3 (i : Nat) (h : i < 1099511627776) : plainElem (H := Unit) Tryz.prog 3 (.int .i64 (i : Int)) = some (num i, []) := plainElem_int Tryz.underlying3 (by
  show (decide (-9223372036854775808 ≤ (i : Int)) && decide ((i : Int) ≤ 9223372036854775807)) = true
  simp; omega)
theorem flat_set (l : Es) (i : Nat) (e : Bs × Int) : (l.set i e).flatMap cS = ((l.flatMap cS).set (i * 2) (.string (mk e.1))).set (i * 2 + 1) (.int .i64 e.2) := by
  induction l generalizing i with
  | nil => simp
  | cons a r ih =>
    cases i with
    | zero => simp [cS]
    | succ i =>
      rw [List.set_cons_succ, List.flatMap_cons, List.flatMap_cons, ih i]
      simp only [cS, List.cons_append, List.nil_append]
      rw [show (i + 1) * 2 = i * 2 + 1 + 1 by omega]
      simp only [List.set_cons_succ]
theorem ent_set {base : Nat} {w : World} {v : Value} {l : Es} {g : Nat} (h : w.ownsRow base 96 2 v l.length (l.flatMap cS)) (hg : v.ownBlock = some g) (i : Nat) (hi : i < l.length) (e : Bs × Int) :
    ((w.setCell ⟨g, i * 2, none⟩ (.string (mk e.1))).setCell ⟨g, i * 2 + 1, none⟩ (.int .i64 e.2)).ownsRow base 96 2 v (l.set i e).length ((l.set i e).flatMap cS) := by
  refine ⟨by rw [c_len], ?_⟩
  rcases h.2 with ⟨rfl, hn⟩ | ⟨g', cap, cur, rfl, hb, hgg, h1, h2, h3, h4⟩
  · omega
  · cases hg
    rw [List.length_set]
    refine .inr ⟨g', cap, _, rfl, hb, set_at (set_at hgg _) _, h1, h2, by simpa using h3, ?_⟩
    rw [flat_set, ← h4]
    simp [List.take_set]
theorem row_info {base : Nat} {w : World} {v : Value} {l : Es} (h : w.ownsRow base 96 2 v l.length (l.flatMap cS)) (h0 : 0 < l.length) : ∃ g c cur, v = .slice (some ⟨g, 0, none⟩) l.length c ∧ base ≤ g ∧ w.heap[g]? = some (.cells cur 96 (0, 0)) := by
  rcases h.2 with ⟨rfl, hn⟩ | ⟨g, cap, cur, rfl, hb, hg, _⟩
  · omega
  · exact ⟨g, cap, cur, rfl, hb, hg⟩
theorem row_later {base : Nat} {w w' : World} {v : Value} {n : Nat} {xs : List Value} (h : w.ownsRow base 96 2 v n xs) (hk : ∀ g, v.ownBlock = some g → w'.heap[g]? = w.heap[g]?) : w'.ownsRow base 96 2 v n xs := by
  refine ⟨h.1, ?_⟩
  rcases h.2 with hn | ⟨g, cap, cur, rfl, hb, hg, r⟩
  · exact .inl hn
  · exact .inr ⟨g, cap, cur, rfl, hb, (hk g rfl).trans hg, r⟩
theorem turned_block {w w' : World} {b : Nat} (h : w.mapTurned w' b) (k : Nat) (hk : k ≠ b) : w'.heap[k]? = w.heap[k]? := by
  obtain ⟨es, c, es', c', h1, rfl⟩ := h
  exact ChangeMaps.heap_setBlock_other h1 _ hk
theorem cell_eq {w w' : World} {p : Addr} (h : w'.heap[p.block]? = w.heap[p.block]?) : w'.cell? p = w.cell? p := World.cell?_of_block (w := w) h
theorem owns_cells {w : World} {bm n k : Nat} {D : DataW Unit} {R : Value → Option (DataW Unit × List MemPlace)} {cs : Array Value} {t : TypeId} {fz : Nat × Nat} (h : w.ownsMap Tryz.prog 9 R bm n D) (hc : w.heap[k]? = some (.cells cs t fz)) : bm ≠ k := by
  obtain ⟨es, c, hb, _⟩ := h
  intro e
  rw [e, hc] at hb
  cases hb
theorem set_same {w : World} {g o : Nat} {cs : Array Value} {t : TypeId} {fz : Nat × Nat} {x : Value} (hg : w.heap[g]? = some (.cells cs t fz)) (h : w.cell? ⟨g, o, none⟩ = some x) (v : Value) : (w.setCell ⟨g, o, none⟩ v).cell? ⟨g, o, none⟩ = some v := by
  rw [Lib.cell_of_heap hg] at h
  have hl : o < cs.size := (Array.getElem?_eq_some_iff.1 h).1
  rw [Lib.cell_of_heap (set_at hg v)]
  simp [hl]
theorem swap_call {M : Nat → Prop} {b : Nat} {l : Es} {w : World} (h : RS M b w l) (i j : Nat) (hi : i < l.length) (hj : j < l.length) (hb : l.length < 1099511627776) :
    Calls Tryz.prog 221 #[ptr b, .int .i64 (i : Int), .int .i64 (j : Int)] w fun e w' => e = .returned (.tuple #[]) ∧ RS M b w' (swp l i j) ∧ Ev M w w' := by
  obtain ⟨ev, mv, h⟩ := h
  obtain ⟨g, c, cur, rfl, _, hg⟩ := row_info h.ent (by omega)
  have hbg : M g := h.eb g rfl
  obtain ⟨bm, D, rfl, hbm, hown, hsp⟩ : ∃ bm D, mv = .map (some bm) ∧ M bm ∧ w.ownsMap Tryz.prog 9 (plainElem Tryz.prog 3) bm l.length D ∧ Spots lS D l := by
    rcases h.map with ⟨_, rfl⟩ | q
    · simp at hi
    · exact q
  obtain ⟨g', c', e', _, hc⟩ := row_block h.ent (by omega)
  cases e'
  have nbg : b ≠ g := fun e => by have := h.idx; rw [e, hg] at this; cases this
  have nmb : bm ≠ b := owns_cells hown h.idx
  have nmg : bm ≠ g := owns_cells hown hg
  obtain ⟨i0, i1⟩ := hc i hi
  obtain ⟨j0, j1⟩ := hc j hj
  rw [← pl_in hi] at i0 i1
  rw [← pl_in hj] at j0 j1
  have c0 : w.cell? ⟨b, 0, none⟩ = some (.slice (some ⟨g, 0, none⟩) l.length c) := by simp [World.cell?, h.idx]
  have fr : ∀ o, w.frozen? ⟨g, o, none⟩ = false := fun o => Lib.frozen_of_heap hg o
  -- the worlds
  have e1 := ent_set h.ent (g := g) rfl i hi (pl l j)
  have e2 := ent_set e1 (g := g) rfl j (by simpa using hj) (pl l i)
  have el : ((l.set i (pl l j)).set j (pl l i)) = swp l i j := rfl
  rw [el] at e2
  obtain ⟨W1, hW1⟩ : ∃ W1, W1 = ((((w.setCell ⟨g, i * 2, none⟩ (.string (mk (pl l j).1))).setCell ⟨g, i * 2 + 1, none⟩ (.int .i64 (pl l j).2)).setCell ⟨g, j * 2, none⟩ (.string (mk (pl l i).1))).setCell ⟨g, j * 2 + 1, none⟩ (.int .i64 (pl l i).2)).drew := ⟨_, rfl⟩
  have r1 : W1.ownsRow 0 96 2 (.slice (some ⟨g, 0, none⟩) l.length c) (swp l i j).length ((swp l i j).flatMap cS) := by rw [hW1]; exact e2
  have o1 : ∀ k, k ≠ g → W1.heap[k]? = w.heap[k]? := fun k hk => by
    rw [hW1]
    show ((((w.setCell _ _).setCell _ _).setCell _ _).setCell _ _).heap[k]? = _
    rw [set_ne hk, set_ne hk, set_ne hk, set_ne hk]
  have m1 : W1.drew.ownsMap Tryz.prog 9 (plainElem Tryz.prog 3) bm l.length D := by
    rw [hW1]
    exact (((((hown.setCell nmg _).setCell nmg _).setCell nmg _).setCell nmg _).drew).drew
  have v1 : Ev M w W1 := by
    rw [hW1]
    exact ((((Ev.set hbg _).trans (Ev.set hbg _)).trans (Ev.set hbg _)).trans (Ev.set hbg _)).drew
  have wj : (pl l j).1.length ≤ 281474976710656 := h.wide _ (by rw [pl_in hj]; exact List.getElem_mem hj)
  have wi : (pl l i).1.length ≤ 281474976710656 := h.wide _ (by rw [pl_in hi]; exact List.getElem_mem hi)
  obtain ⟨W2, hu1, m2, t2⟩ := m1.store law9 Tryz.underlying86 (by unfold maxLen; omega) (key9 _ wj) (val3 i (by omega))
  have T0 := hown.tidy law9
  have hz2 : Maps.size (D.put (lS (pl l j).1) (num i)) = l.length := by rw [size_put T0, if_pos (hsp.some j hj).1, hsp.size]
  have m2' := owns_norm m2
  rw [hz2] at m2'
  obtain ⟨W3, hu2, m3, t3⟩ := m2'.drew.store law9 Tryz.underlying86 (by unfold maxLen; omega) (key9 _ wi) (val3 j (by omega))
  have hsw := hsp.swp litS T0 h.keys hi hj
  have m3' := owns_norm m3
  rw [hsw.1.size] at m3'
  have o2 : ∀ k, k ≠ bm → W2.heap[k]? = W1.heap[k]? := fun k hk => turned_block t2 k hk
  have o3 : ∀ k, k ≠ bm → W3.heap[k]? = W2.heap[k]? := fun k hk => turned_block t3 k hk
  have hswi : i < (swp l i j).length := by rw [swp_len]; exact hi
  have hswj : j < (swp l i j).length := by rw [swp_len]; exact hj
  obtain ⟨g2, c2, e3, _, hc1⟩ := row_block (l := swp l i j) (v := .slice (some ⟨g, 0, none⟩) l.length c) r1 (by omega)
  have e4 : g2 = g := by simp only [Value.slice.injEq, Option.some.injEq, Addr.mk.injEq] at e3; exact e3.1.1.symm
  rw [e4] at hc1
  have k1 := (hc1 i hswi).1
  rw [← pl_in hswi, swp_at hi hj] at k1
  have k2 := (hc1 j hswj).1
  rw [← pl_in hswj, swp_at hi hj, if_pos rfl] at k2
  have k1' : W1.cell? ⟨g, i * 2, none⟩ = some (.string (mk (pl l j).1)) := by
    by_cases q : i = j
    · subst q; rw [if_pos rfl] at k1; exact k1
    · rw [if_neg q, if_pos rfl] at k1; exact k1
  have b1 : W1.heap[b]? = some (.cells #[.slice (some ⟨g, 0, none⟩) l.length c, .map (some bm)] 90 (0, 0)) := (o1 b nbg).trans h.idx
  have b2 := (o2 b (Ne.symm nmb)).trans b1
  have b3 := (o3 b (Ne.symm nmb)).trans b2
  have H1 := hid_of (show W1.cell? ⟨b, 0, none⟩ = some (.slice (some ⟨g, 0, none⟩) l.length c) ∧ W1.cell? ⟨b, 1, none⟩ = some (.map (some bm)) ∧ W1.cell? ⟨g, i * 2, none⟩ = some (.string (mk (pl l j).1)) ∧ (Instr.mapUpdate 86 (.map (some bm)) (.string (mk (pl l j).1)) (.int .i64 (i : Int))).run Tryz.prog W1.drew = .ok () W2 from ⟨Lib.cell_of_heap b1 0, Lib.cell_of_heap b1 1, k1', hu1⟩)
  have H2 := hid_of (show W2.cell? ⟨b, 0, none⟩ = some (.slice (some ⟨g, 0, none⟩) l.length c) ∧ W2.cell? ⟨b, 1, none⟩ = some (.map (some bm)) ∧ W2.cell? ⟨g, j * 2, none⟩ = some (.string (mk (pl l i).1)) ∧ (Instr.mapUpdate 86 (.map (some bm)) (.string (mk (pl l i).1)) (.int .i64 (j : Int))).run Tryz.prog W2.drew = .ok () W3 from ⟨Lib.cell_of_heap b2 0, Lib.cell_of_heap b2 1, (cell_eq (w := W1) (p := ⟨g, j * 2, none⟩) (o2 g (Ne.symm nmg))).trans k2, hu2⟩)
  have HRaw : Calls Tryz.prog 221 #[ptr b, .int .i64 (i : Int), .int .i64 (j : Int)] w fun e w' => e = .returned (.tuple #[]) ∧ w' = W3 := by
    by_cases q : i = j
    · subst q
      have q0 : (w.setCell ⟨g, i * 2, none⟩ (.string (mk (pl l i).1))).cell? ⟨g, i * 2, none⟩ = some (.string (mk (pl l i).1)) := by
        exact set_same hg i0 _
      have q1 : (w.setCell ⟨g, i * 2 + 1, none⟩ (.int .i64 (pl l i).2)).cell? ⟨g, i * 2 + 1, none⟩ = some (.int .i64 (pl l i).2) := by
        exact set_same hg i1 _
      exact swap_raw1 b g l.length c i w W1 W2 W3 (mk (pl l i).1) (pl l i).2 hi hb (some bm) nbg c0 i0 i1 (fr _) (fr _) q0 q1 (hid_of hW1.symm) H1 H2
    · exact swap_raw b g l.length c i j w W1 W2 W3 (mk (pl l i).1) (mk (pl l j).1) (pl l i).2 (pl l j).2 hi hj hb (some bm) nbg q c0 i0 i1 j0 j1 (fr _) (fr _) (fr _) (fr _) (hid_of hW1.symm) H1 H2
  have vv : Ev M w W3 := ((v1.drew.trans (Ev.turned t2 hbm)).drew).trans (Ev.turned t3 hbm)
  refine HRaw.mono ?_
  rintro e w' ⟨rfl, rfl⟩
  refine ⟨rfl, ⟨.slice (some ⟨g, 0, none⟩) l.length c, .map (some bm), ⟨b3, h.bb, ?_, .inr ⟨bm, _, rfl, hbm, m3', hsw.1⟩, h.keys.swp hi hj, fun e he => h.wide e ((swp_perm hi hj).mem_iff.1 he), h.eb, fun k hk => h.up k (Nat.le_trans vv.size hk)⟩⟩, ?_⟩
  · exact row_later r1 fun k hk => by cases hk; exact (o3 g (Ne.symm nmg)).trans (o2 g (Ne.symm nmg))
  · exact ((v1.drew.trans (Ev.turned t2 hbm)).drew).trans (Ev.turned t3 hbm)
end Go.Proofs.YtminfpkigenahaaGreatDoor.Swap
end
section
namespace Go.Proofs.YtminfpkigenahaaGreatDoor.PopR
open Go.RowKit Go.Maps
open Go.Proofs.YtminfpkigenahaaGreatDoor.HeapMath
open Go.Proofs.YtminfpkigenahaaGreatDoor.Heap
open Go.Proofs.YtminfpkigenahaaGreatDoor.Turn
open Go.Proofs.YtminfpkigenahaaGreatDoor.Before
open Go.Proofs.YtminfpkigenahaaGreatDoor.Base (mk mk_list)
open Go.Proofs.YtminfpkigenahaaGreatDoor.RowB
set_option linter.unusedVariables false
set_option linter.unusedSimpArgs false
set_option maxHeartbeats 4000000 in
set_option maxRecDepth 100000 in
theorem pop_raw (b g n c : Nat) (w W1 W2 : World) (k : ByteArray) (t : Int) (hn : n < 1099511627776) (mb : Option Nat) (hbg : b ≠ g) (hbl : b < w.heap.size) (hgl : g < w.heap.size)
    (c0 : w.cell? ⟨b, 0, none⟩ = some (.slice (some ⟨g, 0, none⟩) (n + 1) c)) (f0 : w.frozen? ⟨b, 0, none⟩ = false)
    (i0 : w.cell? ⟨g, n * 2, none⟩ = some (.string k)) (i1 : w.cell? ⟨g, n * 2 + 1, none⟩ = some (.int .i64 t))
    (fi0 : w.frozen? ⟨g, n * 2, none⟩ = false) (fi1 : w.frozen? ⟨g, n * 2 + 1, none⟩ = false)
    (hs : ∀ W, (Instr.slice 85 (.slice (some ⟨g, 0, none⟩) (n + 1) c) none (some (.int .i64 (n : Int))) none).run Tryz.prog W = .ok (.slice (some ⟨g, 0, none⟩) n c) W)
    (HW : Hid ((((w.setCell ⟨g, n * 2, none⟩ (.string ⟨#[]⟩)).setCell ⟨g, n * 2 + 1, none⟩ (.int .i64 0)).setCell ⟨b, 0, none⟩ (.slice (some ⟨g, 0, none⟩) n c)).alloc (.cells #[.string k, .int .i64 t] 96) = W1))
    (H1 : Hid (W1.cell? ⟨b, 1, none⟩ = some (.map mb) ∧ W1.cell? ⟨w.heap.size, 0, none⟩ = some (.string k) ∧ (Builtin.delete_ #[86, 9] 0 #[.map mb, .string k]).run Tryz.prog W1.drew = .ok (.tuple #[]) W2))
    (H2 : Hid (W2.cell? ⟨w.heap.size, 0, none⟩ = some (.string k) ∧ W2.cell? ⟨w.heap.size, 1, none⟩ = some (.int .i64 t))) : Calls Tryz.prog 219 #[.pointer (some ⟨b, 0, none⟩)] w fun e w' => e = .returned (.iface 96 (.agg #[.string k, .int .i64 t])) ∧ w' = W2 := by
  have e1 : IntKind.i64.wrap (((n + 1 : Nat) : Int) - 1) = (n : Int) := by rw [show (((n + 1 : Nat) : Int) - 1) = (n : Int) by omega]; exact IntWalk.i64_in _ (by omega)
  have e2 : (((n + 1 : Nat) : Int) - 1) = (n : Int) := by omega
  have e3 : ((n : Int) + 1 - 1) = (n : Int) := by omega
  have nb : b ≠ w.heap.size := by omega
  have ng : g ≠ w.heap.size := by omega
  go_enter Tryz.func219, Tryz.ntmps219
  go_wp2_with fail
  rw [HW.out]
  clear c0 f0 i0 i1 fi0 fi1 HW
  obtain ⟨c1, k0, hu⟩ := H1.out
  go_region
  clear c1 k0 hu
  obtain ⟨k0, k1⟩ := H2.out
  go_wp2_with fail
  go_ret
  exact ⟨rfl, rfl⟩
end Go.Proofs.YtminfpkigenahaaGreatDoor.PopR
end
section
namespace Go.Proofs.YtminfpkigenahaaGreatDoor.Pop
open Go.RowKit Go.Maps
open Go.Proofs.YtminfpkigenahaaGreatDoor.HeapMath
open Go.Proofs.YtminfpkigenahaaGreatDoor.Heap
open Go.Proofs.YtminfpkigenahaaGreatDoor.Turn
open Go.Proofs.YtminfpkigenahaaGreatDoor.Before
open Go.Proofs.YtminfpkigenahaaGreatDoor.Base (mk mk_list)
open Go.Proofs.YtminfpkigenahaaGreatDoor.Spots
open Go.Proofs.YtminfpkigenahaaGreatDoor.RowB
open Go.Proofs.YtminfpkigenahaaGreatDoor.Swap
open Go.Proofs.YtminfpkigenahaaGreatDoor.PopR
set_option linter.unusedVariables false
set_option linter.unusedSimpArgs false
theorem und68 : Tryz.prog.underlying 85 = some (.slice (Tryz.prog.elem 85)) := by kernel_rfl
theorem el68 : Tryz.prog.elem 85 = 96 := by kernel_rfl
theorem cut_run (g n c : Nat) (h : n + 1 ≤ c) (hn : n < 1099511627776) (W : World) : (Instr.slice 85 (.slice (some ⟨g, 0, none⟩) (n + 1) c) none (some (.int .i64 (n : Int))) none).run Tryz.prog W = .ok (.slice (some ⟨g, 0, none⟩) n c) W := by
  rw [run_slice_h (P := Tryz.prog) W 85 (some ⟨g, 0, none⟩) (n + 1) c und68 .i64 (n : Int) (by omega) (by omega), el68, Tryz.sizeOf96]
  show Result.ok (sliced _ 0 ((n : Int)).toNat c 2) W = _
  unfold sliced
  have e : ¬ c = 0 := by omega
  simp [e, Addr.add]
theorem flat_take (l : Es) (n : Nat) : (l.take n).flatMap cS = (l.flatMap cS).take (n * 2) := by
  induction l generalizing n with
  | nil => simp
  | cons a r ih =>
    cases n with
    | zero => simp
    | succ n =>
      rw [List.take_succ_cons, List.flatMap_cons, List.flatMap_cons, ih n]
      simp only [cS, List.cons_append, List.nil_append]
      rw [show (n + 1) * 2 = n * 2 + 1 + 1 by omega]
      simp only [List.take_succ_cons]
theorem short {base : Nat} {w : World} {g m c n : Nat} {l : Es} (h : w.ownsRow base 96 2 (.slice (some ⟨g, 0, none⟩) m c) m (l.flatMap cS)) (hm : l.length = m) (hn : n ≤ m) : w.ownsRow base 96 2 (.slice (some ⟨g, 0, none⟩) n c) n ((l.take n).flatMap cS) := by
  refine ⟨by rw [c_len, List.length_take]; omega, ?_⟩
  rcases h.2 with ⟨e, _⟩ | ⟨g', cap, cur, e, hb, hg, h1, h2, h3, h4⟩
  · simp at e
  · simp only [Value.slice.injEq, Option.some.injEq, Addr.mk.injEq] at e
    obtain ⟨⟨rfl, _⟩, _, rfl⟩ := e
    refine .inr ⟨g, c, cur, rfl, hb, hg, by omega, h2, h3, ?_⟩
    rw [flat_take, ← h4, List.take_take, Nat.min_eq_left (by omega)]
theorem new_at (V : World) (o : Obj) : (V.alloc o).heap[V.heap.size]? = some o := by
  show (V.heap.push o)[V.heap.size]? = some o
  simp
theorem pop_call {M : Nat → Prop} {b : Nat} {l : Es} {w : World} (h : RS M b w l) (h0 : 0 < l.length) (hb : l.length < 1099511627776) :
    Calls Tryz.prog 219 #[ptr b] w fun e w' => e = .returned (.iface 96 (eS (pl l (l.length - 1)))) ∧ RS M b w' (l.take (l.length - 1)) ∧ Ev M w w' := by
  obtain ⟨ev, mv, h⟩ := h
  obtain ⟨n, hn⟩ : ∃ n, l.length = n + 1 := ⟨l.length - 1, by omega⟩
  obtain ⟨g, c, cur, rfl, hbg, hg, hcn⟩ : ∃ g c cur, ev = .slice (some ⟨g, 0, none⟩) (n + 1) c ∧ M g ∧ w.heap[g]? = some (.cells cur 96 (0, 0)) ∧ n + 1 ≤ c := by
    rcases h.ent.2 with ⟨rfl, q⟩ | ⟨g, cap, cur, rfl, q1, q2, q3, _⟩
    · omega
    · exact ⟨g, cap, cur, by rw [hn], h.eb g rfl, q2, by omega⟩
  obtain ⟨bm, D, rfl, hbm, hown, hsp⟩ : ∃ bm D, mv = .map (some bm) ∧ M bm ∧ w.ownsMap Tryz.prog 9 (plainElem Tryz.prog 3) bm l.length D ∧ Spots lS D l := by
    rcases h.map with ⟨_, rfl⟩ | q
    · simp at h0
    · exact q
  obtain ⟨g', c', e', _, hc⟩ := row_block h.ent (by omega)
  have eg : g = g' := by simp only [Value.slice.injEq, Option.some.injEq, Addr.mk.injEq] at e'; exact e'.1.1
  rw [← eg] at hc
  have nbg : b ≠ g := fun e => by have := h.idx; rw [e, hg] at this; cases this
  have nmb : bm ≠ b := owns_cells hown h.idx
  have nmg : bm ≠ g := owns_cells hown hg
  have hnl : n < l.length := by omega
  have e1 : l.length - 1 = n := by omega
  rw [e1]
  obtain ⟨i0, i1⟩ := hc n hnl
  rw [← pl_in hnl] at i0 i1
  have c0 : w.cell? ⟨b, 0, none⟩ = some (.slice (some ⟨g, 0, none⟩) (n + 1) c) := Lib.cell_of_heap h.idx 0
  have es := ent_set h.ent (g := g) rfl n hnl ([], 0)
  rw [List.length_set, hn] at es
  have es2 := short (n := n) es (by simp [hn]) (by omega)
  rw [List.take_set_of_le (Nat.le_refl _)] at es2
  obtain ⟨W0, hW0⟩ : ∃ W0, W0 = ((w.setCell ⟨g, n * 2, none⟩ (.string ⟨#[]⟩)).setCell ⟨g, n * 2 + 1, none⟩ (.int .i64 0)) := ⟨_, rfl⟩
  have es3 : W0.ownsRow 0 96 2 (.slice (some ⟨g, 0, none⟩) n c) n ((l.take n).flatMap cS) := by rw [hW0]; exact es2
  have b0 : W0.heap[b]? = some (.cells #[.slice (some ⟨g, 0, none⟩) (n + 1) c, .map (some bm)] 90 (0, 0)) := by rw [hW0, set_ne nbg, set_ne nbg]; exact h.idx
  have b1 := set_at (i := 0) b0 (.slice (some ⟨g, 0, none⟩) n c)
  have hz : (((w.setCell ⟨g, n * 2, none⟩ (.string ⟨#[]⟩)).setCell ⟨g, n * 2 + 1, none⟩ (.int .i64 0)).setCell ⟨b, 0, none⟩ (.slice (some ⟨g, 0, none⟩) n c)).heap.size = w.heap.size := by rw [size_set, size_set, size_set]
  obtain ⟨W1, hW1⟩ : ∃ W1, W1 = (W0.setCell ⟨b, 0, none⟩ (.slice (some ⟨g, 0, none⟩) n c)).alloc (.cells #[.string (mk (pl l n).1), .int .i64 (pl l n).2] 96) := ⟨_, rfl⟩
  have hs0 : (W0.setCell ⟨b, 0, none⟩ (.slice (some ⟨g, 0, none⟩) n c)).heap.size = w.heap.size := by rw [hW0]; exact hz
  have hbl := lt_of h.idx
  have hgl := lt_of hg
  have B1 : W1.heap[b]? = some (.cells #[.slice (some ⟨g, 0, none⟩) n c, .map (some bm)] 90 (0, 0)) := by
    rw [hW1, Below.heap_alloc _ _ b (by rw [hs0]; exact hbl)]; exact b1
  have X1 : W1.heap[w.heap.size]? = some (.cells #[.string (mk (pl l n).1), .int .i64 (pl l n).2] 96 (0, 0)) := by
    have q := new_at (W0.setCell ⟨b, 0, none⟩ (.slice (some ⟨g, 0, none⟩) n c)) (.cells #[.string (mk (pl l n).1), .int .i64 (pl l n).2] 96)
    rw [hs0, ← hW1] at q
    exact q
  have R1 : W1.ownsRow 0 96 2 (.slice (some ⟨g, 0, none⟩) n c) n ((l.take n).flatMap cS) := row_later es3 fun k hk => by
    cases hk
    rw [hW1, Below.heap_alloc _ _ g (by rw [hs0]; exact hgl), set_ne (Ne.symm nbg)]
  have m1 : W1.drew.ownsMap Tryz.prog 9 (plainElem Tryz.prog 3) bm l.length D := by
    rw [hW1, hW0]
    exact ((((hown.setCell nmg _).setCell nmg _).setCell nmb _).alloc _).drew
  have v1 : Ev M w W1 := by
    rw [hW1]
    rw [hW0]
    exact (((Ev.set hbg _).trans (Ev.set hbg _)).trans (Ev.set h.bb _)).alloc _
  have wi : (pl l n).1.length ≤ 281474976710656 := h.wide _ (by rw [pl_in hnl]; exact List.getElem_mem hnl)
  obtain ⟨W2, hu, m2, t2⟩ := m1.drop law9 Tryz.underlying86 (key9 _ wi) 0
  have T0 := hown.tidy law9
  have hpop := hsp.pop litS T0 h.keys h0
  rw [e1] at hpop
  have m2' := owns_norm m2
  rw [hpop.size] at m2'
  have o2 : ∀ k, k ≠ bm → W2.heap[k]? = W1.heap[k]? := fun k hk => turned_block t2 k hk
  have nmx : bm ≠ w.heap.size := Nat.ne_of_lt hown.lt
  have X2 := (o2 w.heap.size (Ne.symm nmx)).trans X1
  have H1 := hid_of (show W1.cell? ⟨b, 1, none⟩ = some (.map (some bm)) ∧ W1.cell? ⟨w.heap.size, 0, none⟩ = some (.string (mk (pl l n).1)) ∧ (Builtin.delete_ #[86, 9] 0 #[.map (some bm), .string (mk (pl l n).1)]).run Tryz.prog W1.drew = .ok (.tuple #[]) W2 from ⟨Lib.cell_of_heap B1 1, Lib.cell_of_heap X1 0, hu⟩)
  have H2 := hid_of (show W2.cell? ⟨w.heap.size, 0, none⟩ = some (.string (mk (pl l n).1)) ∧ W2.cell? ⟨w.heap.size, 1, none⟩ = some (.int .i64 (pl l n).2) from ⟨Lib.cell_of_heap X2 0, Lib.cell_of_heap X2 1⟩)
  refine (pop_raw b g n c w W1 W2 (mk (pl l n).1) (pl l n).2 (by omega) (some bm) nbg hbl hgl c0 (Lib.frozen_of_heap h.idx 0) i0 i1 (Lib.frozen_of_heap hg _) (Lib.frozen_of_heap hg _) (cut_run g n c hcn (by omega)) (hid_of (by rw [hW1, hW0])) H1 H2).mono ?_
  rintro e w' ⟨rfl, rfl⟩
  have elen : (l.take n).length = n := by rw [List.length_take]; omega
  refine ⟨rfl, ⟨.slice (some ⟨g, 0, none⟩) n c, .map (some bm), ⟨(o2 b (Ne.symm nmb)).trans B1, h.bb, ?_, .inr ⟨bm, _, rfl, hbm, m2', hpop⟩, h.keys.take n, fun e he => h.wide e (List.mem_of_mem_take he), h.eb, fun k hk => h.up k (Nat.le_trans (v1.drew.trans (Ev.turned t2 hbm)).size hk)⟩⟩, ?_⟩
  · rw [elen]
    exact row_later R1 fun k hk => by cases hk; exact o2 g (Ne.symm nmg)
  · exact v1.drew.trans (Ev.turned t2 hbm)
end Go.Proofs.YtminfpkigenahaaGreatDoor.Pop
end
