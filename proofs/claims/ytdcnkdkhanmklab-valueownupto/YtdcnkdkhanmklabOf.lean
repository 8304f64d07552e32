/- Of: a copy, sorted, freed of what stands twice; Has. -/
import Derived.Test.YtdcnkdkhanmklabBase
import Derived.Test.YtdcnkdkhanmklabShelf
namespace Go.Proofs.Ytdcnkdkhanmklab.Of
open Go.RowKit Go.Sort
open Go.Proofs.Ytdcnkdkhanmklab.SetMath
open Go.Proofs.Ytdcnkdkhanmklab.Base
set_option linter.unusedVariables false
set_option linter.unusedSimpArgs false
theorem clone_call {G : Nat → Prop} {w : World} {v : Value} {l : List El} (h : SL G w v l) (hb : l.length * 16 ≤ 140737488355328) :
    Calls Try.prog 13 #[v] w fun e w' => ∃ r, e = .returned r ∧ NR w.heap.size w' r l ∧ Below w.heap.size w w' := by
  obtain ⟨a, c, rfl, hc, hr⟩ := h
  cases a with
  | none =>
    have h0 : l = [] := by
      rcases hr with h | ⟨g, o, e, _⟩
      · exact h
      · cases e
    subst h0
    refine (Try.slices_Clone_string_nil 0 c w).mono ?_
    rintro e w' ⟨rfl, rfl⟩
    exact ⟨_, rfl, .inl ⟨rfl, rfl⟩, Below.refl _ _⟩
  | some a =>
    by_cases h0 : l = []
    · subst h0
      refine (Try.slices_Clone_string_zero a c w).mono ?_
      rintro e w' ⟨v', rfl, ho, _, hbl⟩
      exact ⟨v', rfl, NR.of_owns ho, hbl⟩
    · obtain ⟨g, o, e, _, hcell⟩ := Rd.get hr (List.length_pos_iff.2 h0)
      cases e
      refine (Try.slices_Clone_string g o l.length c (l.map mk) w (by simp) hb (fun j hj => ?_)).mono ?_
      · have hj' : j < l.length := by simpa using hj
        rw [hcell j l[j] (List.getElem?_eq_getElem hj')]
        simp [List.getD, hj']
      · rintro e w' ⟨v', rfl, ho, _, hbl⟩
        refine ⟨v', rfl, NR.of_owns ?_, hbl⟩
        rw [List.take_of_length_le (by simp), List.map_map] at ho
        exact ho
theorem sort_call {B : Nat} {w : World} {v : Value} {l : List El} (h : NR B w v l) (hb : l.length < 4611686018427387904) (hB : B ≤ w.heap.size) :
    Calls Try.prog 81 #[v] w fun e w' => e = .returned (.tuple #[]) ∧ NR B w' v (l.mergeSort leS) ∧ Below B w w' := by
  have hlen : (l.mergeSort leS).length = l.length := List.length_mergeSort l
  rcases h with ⟨rfl, rfl⟩ | ⟨g, c, cur, rfl, hBg, hr, hx, hl, ht⟩
  · refine (Try.slices_Sort_string_none none 0 w).mono ?_
    rintro e w' ⟨rfl, rfl⟩
    exact ⟨rfl, .inl ⟨rfl, by simp⟩, Below.refl _ _⟩
  · by_cases h0 : l = []
    · subst h0
      refine (Try.slices_Sort_string_none _ c w).mono ?_
      rintro e w' ⟨rfl, rfl⟩
      exact ⟨rfl, .inr ⟨g, c, cur, by simp, hBg, hr, hx, by simp, by simp⟩, Below.refl _ _⟩
    · have hH : Holds encStr w g 0 l.toArray := holds_of_block hr ht
      refine (Try.slices_Sort_string g 0 c l w hH (lt_of hr) hb).mono ?_
      rintro e w' ⟨rfl, n, os, rfl⟩
      refine ⟨rfl, .inr ⟨g, c, _, by rw [hlen], hBg, heap_sorted _ hr, by simp [putCells]; exact hx, by rw [hlen]; exact hl, take_putCells cur (l.mergeSort leS) (by rw [hlen]; omega)⟩, (Below.refl B w).grown (grownBy_sorted _) hB (fun j hj => by cases hj; exact hBg)⟩
theorem heap_put {w : World} {g n : Nat} {cur : Array Value} {e : TypeId} {fr : Nat × Nat} (d : Array (List UInt8)) (hb : w.heap[g]? = some (.cells cur e fr)) :
    (putRow encStr (Sort.ahead w n) g 0 d).heap[g]? = some (.cells (putCells encStr 0 d cur) e fr) := by
  simp [putRow, mapBlock, Sort.ahead, Array.getElem?_modify, hb, onCells]
theorem below_put {w : World} {B g n : Nat} (d : Array (List UInt8)) (hB : B ≤ g) : Below B w (putRow encStr (Sort.ahead w n) g 0 d) := by
  refine ⟨rfl, rfl, rfl, by simp [putRow, mapBlock, Sort.ahead], fun k hk => ?_⟩
  have : g ≠ k := by omega
  simp [putRow, mapBlock, Sort.ahead, Array.getElem?_modify, this]
theorem compact_call {B : Nat} {w : World} {v : Value} {l : List El} (h : NR B w v l) (hb : l.length < 4611686018427387904) (hB : B ≤ w.heap.size) :
    Calls Try.prog 82 #[v] w fun e w' => ∃ r, e = .returned r ∧ NR B w' r (Lib.compact l) ∧ Below B w w' := by
  have hle := comp_len l
  rcases h with ⟨rfl, rfl⟩ | ⟨g, c, cur, rfl, hBg, hr, hx, hl, ht⟩
  · refine (Try.slices_Compact_string_empty none 0 w).mono ?_
    rintro e w' ⟨rfl, rfl⟩
    exact ⟨_, rfl, .inl ⟨rfl, rfl⟩, Below.refl _ _⟩
  · by_cases h0 : l = []
    · subst h0
      refine (Try.slices_Compact_string_empty _ c w).mono ?_
      rintro e w' ⟨rfl, rfl⟩
      exact ⟨_, rfl, .inr ⟨g, c, cur, rfl, hBg, hr, hx, by simp [Lib.compact, Lib.compactUpTo], by simp [Lib.compact, Lib.compactUpTo]⟩, Below.refl _ _⟩
    · have hH : Holds encStr w g 0 l.toArray := holds_of_block hr ht
      refine (Try.slices_Compact_string g 0 c l w hH (by omega) hl).mono ?_
      rintro e w' ⟨rfl, q, rfl⟩
      refine ⟨_, rfl, .inr ⟨g, c, _, rfl, hBg, heap_put _ hr, by simp [putCells]; exact hx, by omega, ?_⟩, below_put _ hBg⟩
      have h1 := take_putCells cur (Lib.compact l ++ List.replicate (l.length - (Lib.compact l).length) []) (by simp; omega)
      have h2 := congrArg (List.take (Lib.compact l).length) h1
      rw [List.take_take, Nat.min_eq_left (by simp), List.map_append, List.take_left' (by simp)] at h2
      exact h2
set_option maxRecDepth 100000 in
theorem of_call {G : Nat → Prop} {w : World} {v : Value} {l : List El} (h : SL G w v l) (hb : l.length * 16 ≤ 140737488355328) :
    Calls Try.prog 77 #[v] w fun e w' => ∃ r, e = .returned r ∧ NR w.heap.size w' r (S l) ∧ Below w.heap.size w w' := by
  have HC := hid_of (clone_call h hb)
  obtain ⟨a, c, rfl, _, _⟩ := h
  go_enter Try.func77, Try.ntmps77
  go_wp2_with fail
  refine HC.out.mono ?_
  rintro e w1 ⟨r, rfl, n1, b1⟩
  have HS := hid_of (sort_call n1 (by omega) b1.size)
  obtain ⟨ra, rc, rfl, _⟩ := n1.shape
  have B1 := hid_of b1
  clear n1 b1
  go_wp2_with fail
  refine HS.out.mono ?_
  rintro e w2 ⟨rfl, n2, b2⟩
  have HK := hid_of (compact_call n2 (by rw [List.length_mergeSort]; omega) (Nat.le_trans B1.out.size b2.size))
  have B2 := hid_of (B1.out.trans b2)
  clear n2 b2
  go_wp2_with fail
  refine HK.out.mono ?_
  rintro e w3 ⟨r3, rfl, n3, b3⟩
  have N3 := hid_of (And.intro n3 (B2.out.trans b3))
  obtain ⟨ra3, rc3, rfl, _⟩ := n3.shape
  clear n3 b3
  go_wp2_with fail
  go_ret
  exact ⟨_, rfl, N3.out⟩
theorem contains_eq (l : List El) (m : Bs) : Lib.containsS ((l.map mk).take l.length) (mk m) = decide (m ∈ l) := by
  rw [Bool.eq_iff_iff, Lib.containsS_iff, decide_eq_true_eq, List.take_of_length_le (by simp), List.mem_map]
  constructor
  · rintro ⟨x, hx, e⟩
    rw [← mk_inj e]; exact hx
  · intro h
    exact ⟨m, h, rfl⟩
end Go.Proofs.Ytdcnkdkhanmklab.Of
