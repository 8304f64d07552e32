/- slices.Equal over fields, entries and texts. Of: a copy, sorted, freed of what stands twice; Has. Values in memory; slices.Clone; the copy of a value. -/
import Derived.Test.YtpnigkjmofhmbabGreatFRowM
import Derived.Test.YtpnigkjmofhmbabGreatShelf
import Derived.Test.YtpnigkjmofhmbabGreatBaseM
section
namespace Go.Proofs.YtpnigkjmofhmbabGreat.Equal
open Go.RowKit Go.Maps
open Go.Proofs.YtpnigkjmofhmbabGreat.SetMath
open Go.Proofs.YtpnigkjmofhmbabGreat.Base
open Go.Proofs.YtpnigkjmofhmbabGreat.Neq
set_option linter.unusedVariables false

set_option maxHeartbeats 2000000 in
set_option maxRecDepth 100000 in
theorem eqF_call (v u : Value) (l r : FRow.LL) (w : World) (hv : FRow.FS w v l) (hu : FRow.FS w u r) (hl : l.length ≤ 140737488355328) (hr : r.length ≤ 140737488355328) : Calls Tryz.prog 105 #[v, u] w fun e w' => e = .returned (.bool (decide (l = r))) ∧ Below w.heap.size w w' := by
  obtain ⟨a, c, rfl, hc, hv⟩ := hv
  obtain ⟨d, f, rfl, hf, hu⟩ := hu
  by_cases hlen : l.length = r.length
  · have HV := hid_of hv
    have HU := hid_of hu
    have HL := hid_of hlen
    obtain ⟨N, hN⟩ : ∃ N, N = l.length := ⟨_, rfl⟩
    have HN := hid_of hN
    rw [← hlen, ← hN]
    have hlN : N ≤ 140737488355328 := by rw [hN]; exact hl
    clear hv hu hlen hN hl hr hc hf
    go_enter Tryz.func105, Tryz.ntmps105
    go_wp2_with fail
    go_loopg [13] N (fun g si wx => ∃ k : Nat, k ≤ N ∧ N ≤ k + g ∧ si = .int .i64 (k : Int) ∧ Hid (l.take k = r.take k) ∧ Hid (Below w.heap.size w wx))
    case atStart => exact ⟨0, by omega, by omega, rfl, hid_of rfl, hid_of (Below.refl _ _)⟩
    case round =>
      obtain ⟨k, hk, hg, rfl, HT, HB⟩ := hrel
      by_cases hlt : k < N
      · obtain ⟨g', rfl⟩ : ∃ g', gk = g' + 1 := ⟨gk - 1, by omega⟩
        have k1 : k < l.length := by rw [← HN.out]; exact hlt
        have k2 : k < r.length := by rw [← HL.out, ← HN.out]; exact hlt
        obtain ⟨ga, oa, rfl, ha⟩ : ∃ g o, a = some ⟨g, o, none⟩ ∧ FRow.eAt wr g o l := by
          rcases HV.out with h | ⟨g, o, e, h⟩
          · subst h; simp at k1
          · exact ⟨g, o, e, fun k hk => ⟨FRow.cell_on HB.out (h k hk).1, FRow.cell_on HB.out (h k hk).2⟩⟩
        obtain ⟨gd, od, rfl, hd⟩ : ∃ g o, d = some ⟨g, o, none⟩ ∧ FRow.eAt wr g o r := by
          rcases HU.out with h | ⟨g, o, e, h⟩
          · subst h; simp at k2
          · exact ⟨g, o, e, fun k hk => ⟨FRow.cell_on HB.out (h k hk).1, FRow.cell_on HB.out (h k hk).2⟩⟩
        obtain ⟨a0, a1⟩ := ha k k1
        obtain ⟨d0, d1⟩ := hd k k2
        have e2 : IntKind.i64.wrap ((k : Int) + 1) = (k : Int) + 1 := IntWalk.i64_in _ (by omega)
        have g2 : (k : Int) < (N : Int) := by omega
        have HT2 : Hid (l[k]'k1 = r[k]'k2 → l.take (k + 1) = r.take (k + 1)) := hid_of fun q => by
          rw [List.take_succ_eq_append_getElem k1, List.take_succ_eq_append_getElem k2, HT.out, q]
        have HNE : Hid (l[k]'k1 ≠ r[k]'k2 → l ≠ r) := hid_of fun q e => q (by subst e; rfl)
        obtain ⟨p, hp⟩ : ∃ p, p = l[k]'k1 := ⟨_, rfl⟩
        obtain ⟨q, hq⟩ : ∃ q, q = r[k]'k2 := ⟨_, rfl⟩
        rw [← hp] at a0 a1 HT2 HNE
        rw [← hq] at d0 d1 HT2 HNE
        have hne := neqF p q
        clear ha hd hp hq
        by_cases hpq : p = q
        · have hd0 : decide (p ≠ q) = false := by simp [hpq]
          rw [hd0] at hne
          have HT3 := hid_of (HT2.out hpq)
          clear hpq hd0 HT2 HNE
          generalize mk p.1 = P1 at *
          generalize mk p.2 = P2 at *
          generalize mk q.1 = Q1 at *
          generalize mk q.2 = Q2 at *
          go_wp2_with fail
          go_quiet (fail)
          go_wp2_with fail
          go_roundg g'
          case measure => omega
          case rel => exact ⟨k + 1, by omega, by omega, by rw [show ((k + 1 : Nat) : Int) = (k : Int) + 1 from by omega], HT3, hid_of (FRow.bdrew HB.out nq)⟩
        · have hd0 : decide (p ≠ q) = true := by simp [hpq]
          rw [hd0] at hne
          have HT3 := hid_of (HNE.out hpq)
          clear hpq hd0 HT2 HNE
          generalize mk p.1 = P1 at *
          generalize mk p.2 = P2 at *
          generalize mk q.1 = Q1 at *
          generalize mk q.2 = Q2 at *
          go_wp2_with fail
          go_quiet (fail)
          go_wp2_with fail
          go_ret
          exact ⟨ret_b (decide_eq_false HT3.out).symm, FRow.bdrew HB.out nq⟩
      · obtain rfl : k = N := by omega
        have gi : ¬ (k : Int) < (k : Int) := by omega
        have HE : Hid (l = r) := hid_of (by
          have := HT.out
          rw [List.take_of_length_le (by rw [← HN.out]; exact Nat.le_refl _), List.take_of_length_le (by rw [← HL.out, ← HN.out]; exact Nat.le_refl _)] at this
          exact this)
        go_wp2_with fail
        go_ret
        exact ⟨ret_b (decide_eq_true HE.out).symm, HB.out⟩
  · have HE : Hid (decide (l = r) = false) := hid_of (decide_eq_false (fun e => hlen (by rw [e])))
    have g1 : ((l.length : Int) != (r.length : Int)) = true := by simp; omega
    obtain ⟨N, hN⟩ : ∃ N, N = l.length := ⟨_, rfl⟩
    obtain ⟨M, hM⟩ : ∃ M, M = r.length := ⟨_, rfl⟩
    rw [← hN, ← hM] at g1
    rw [← hN, ← hM]
    clear hv hu hlen hN hM hl hr hc hf
    go_enter Tryz.func105, Tryz.ntmps105
    go_wp2_with fail
    go_ret
    exact ⟨ret_b HE.out.symm, Below.refl _ _⟩

set_option maxHeartbeats 2000000 in
set_option maxRecDepth 100000 in
theorem eqE_call (v u : Value) (l r : ERow.LL) (w : World) (hv : ERow.FS w v l) (hu : ERow.FS w u r) (hl : l.length ≤ 140737488355328) (hr : r.length ≤ 140737488355328) : Calls Tryz.prog 106 #[v, u] w fun e w' => e = .returned (.bool (decide (l = r))) ∧ Below w.heap.size w w' := by
  obtain ⟨a, c, rfl, hc, hv⟩ := hv
  obtain ⟨d, f, rfl, hf, hu⟩ := hu
  by_cases hlen : l.length = r.length
  · have HV := hid_of hv
    have HU := hid_of hu
    have HL := hid_of hlen
    obtain ⟨N, hN⟩ : ∃ N, N = l.length := ⟨_, rfl⟩
    have HN := hid_of hN
    rw [← hlen, ← hN]
    have hlN : N ≤ 140737488355328 := by rw [hN]; exact hl
    clear hv hu hlen hN hl hr hc hf
    go_enter Tryz.func106, Tryz.ntmps106
    go_wp2_with fail
    go_loopg [13] N (fun g si wx => ∃ k : Nat, k ≤ N ∧ N ≤ k + g ∧ si = .int .i64 (k : Int) ∧ Hid (l.take k = r.take k) ∧ Hid (Below w.heap.size w wx))
    case atStart => exact ⟨0, by omega, by omega, rfl, hid_of rfl, hid_of (Below.refl _ _)⟩
    case round =>
      obtain ⟨k, hk, hg, rfl, HT, HB⟩ := hrel
      by_cases hlt : k < N
      · obtain ⟨g', rfl⟩ : ∃ g', gk = g' + 1 := ⟨gk - 1, by omega⟩
        have k1 : k < l.length := by rw [← HN.out]; exact hlt
        have k2 : k < r.length := by rw [← HL.out, ← HN.out]; exact hlt
        obtain ⟨ga, oa, rfl, ha⟩ : ∃ g o, a = some ⟨g, o, none⟩ ∧ ERow.eAt wr g o l := by
          rcases HV.out with h | ⟨g, o, e, h⟩
          · subst h; simp at k1
          · exact ⟨g, o, e, fun k hk => ⟨ERow.cell_on HB.out (h k hk).1, ERow.cell_on HB.out (h k hk).2⟩⟩
        obtain ⟨gd, od, rfl, hd⟩ : ∃ g o, d = some ⟨g, o, none⟩ ∧ ERow.eAt wr g o r := by
          rcases HU.out with h | ⟨g, o, e, h⟩
          · subst h; simp at k2
          · exact ⟨g, o, e, fun k hk => ⟨ERow.cell_on HB.out (h k hk).1, ERow.cell_on HB.out (h k hk).2⟩⟩
        obtain ⟨a0, a1⟩ := ha k k1
        obtain ⟨d0, d1⟩ := hd k k2
        have e2 : IntKind.i64.wrap ((k : Int) + 1) = (k : Int) + 1 := IntWalk.i64_in _ (by omega)
        have g2 : (k : Int) < (N : Int) := by omega
        have HT2 : Hid (l[k]'k1 = r[k]'k2 → l.take (k + 1) = r.take (k + 1)) := hid_of fun q => by
          rw [List.take_succ_eq_append_getElem k1, List.take_succ_eq_append_getElem k2, HT.out, q]
        have HNE : Hid (l[k]'k1 ≠ r[k]'k2 → l ≠ r) := hid_of fun q e => q (by subst e; rfl)
        obtain ⟨p, hp⟩ : ∃ p, p = l[k]'k1 := ⟨_, rfl⟩
        obtain ⟨q, hq⟩ : ∃ q, q = r[k]'k2 := ⟨_, rfl⟩
        rw [← hp] at a0 a1 HT2 HNE
        rw [← hq] at d0 d1 HT2 HNE
        have hne := neqE p q
        clear ha hd hp hq
        by_cases hpq : p = q
        · have hd0 : decide (p ≠ q) = false := by simp [hpq]
          rw [hd0] at hne
          have HT3 := hid_of (HT2.out hpq)
          clear hpq hd0 HT2 HNE
          generalize mk p.1 = P1 at *
          generalize p.2 = P2 at *
          generalize mk q.1 = Q1 at *
          generalize q.2 = Q2 at *
          go_wp2_with fail
          go_quiet (fail)
          go_wp2_with fail
          go_roundg g'
          case measure => omega
          case rel => exact ⟨k + 1, by omega, by omega, by rw [show ((k + 1 : Nat) : Int) = (k : Int) + 1 from by omega], HT3, hid_of (ERow.bdrew HB.out nq)⟩
        · have hd0 : decide (p ≠ q) = true := by simp [hpq]
          rw [hd0] at hne
          have HT3 := hid_of (HNE.out hpq)
          clear hpq hd0 HT2 HNE
          generalize mk p.1 = P1 at *
          generalize p.2 = P2 at *
          generalize mk q.1 = Q1 at *
          generalize q.2 = Q2 at *
          go_wp2_with fail
          go_quiet (fail)
          go_wp2_with fail
          go_ret
          exact ⟨ret_b (decide_eq_false HT3.out).symm, ERow.bdrew HB.out nq⟩
      · obtain rfl : k = N := by omega
        have gi : ¬ (k : Int) < (k : Int) := by omega
        have HE : Hid (l = r) := hid_of (by
          have := HT.out
          rw [List.take_of_length_le (by rw [← HN.out]; exact Nat.le_refl _), List.take_of_length_le (by rw [← HL.out, ← HN.out]; exact Nat.le_refl _)] at this
          exact this)
        go_wp2_with fail
        go_ret
        exact ⟨ret_b (decide_eq_true HE.out).symm, HB.out⟩
  · have HE : Hid (decide (l = r) = false) := hid_of (decide_eq_false (fun e => hlen (by rw [e])))
    have g1 : ((l.length : Int) != (r.length : Int)) = true := by simp; omega
    obtain ⟨N, hN⟩ : ∃ N, N = l.length := ⟨_, rfl⟩
    obtain ⟨M, hM⟩ : ∃ M, M = r.length := ⟨_, rfl⟩
    rw [← hN, ← hM] at g1
    rw [← hN, ← hM]
    clear hv hu hlen hN hM hl hr hc hf
    go_enter Tryz.func106, Tryz.ntmps106
    go_wp2_with fail
    go_ret
    exact ⟨ret_b HE.out.symm, Below.refl _ _⟩

theorem eqS_call {G G' : Nat → Prop} {w : World} {u v : Value} {l r : List El} (h : SL G w u l) (h' : SL G' w v r) (hl : l.length ≤ 140737488355328) (hr : r.length ≤ 140737488355328) :
    Calls Tryz.prog 104 #[u, v] w fun e w' => e = .returned (.bool (decide (l = r))) ∧ Below w.heap.size w w' := by
  obtain ⟨a, c, rfl, hc, h1⟩ := h
  obtain ⟨a', c', rfl, hc', h2⟩ := h'
  by_cases hlen : l.length = r.length
  · by_cases h0 : l = []
    · subst h0
      obtain rfl : r = [] := List.length_eq_zero_iff.1 hlen.symm
      refine (Tryz.slices_Equal_string_empty a a' c 0 c' w (by decide)).mono ?_
      rintro e w' ⟨rfl, rfl⟩
      exact ⟨by simp, Below.refl _ _⟩
    · have hp : 0 < l.length := List.length_pos_iff.2 h0
      obtain ⟨g1, o1, rfl, _, q1⟩ := Rd.get h1 hp
      obtain ⟨g2, o2, rfl, _, q2⟩ := Rd.get h2 (by omega)
      refine (Tryz.slices_Equal_string g1 o1 l.length c g2 o2 r.length c' (l.map mk) (r.map mk) w (by simp) (by simp) (by omega) (by omega) (fun j hj => ?_) (fun j hj => ?_)).mono ?_
      · have hj' : j < l.length := by simpa using hj
        rw [q1 j l[j] (List.getElem?_eq_getElem hj')]
        simp [List.getD, hj']
      · have hj' : j < r.length := by simpa using hj
        rw [q2 j r[j] (List.getElem?_eq_getElem hj')]
        simp [List.getD, hj']
      · rintro e w' ⟨rfl, q, rfl⟩
        refine ⟨ret_b ?_, ⟨rfl, rfl, rfl, Nat.le_refl _, fun _ _ => rfl⟩⟩
        rw [List.take_of_length_le (by simp), List.take_of_length_le (by simp)]
        have : (l.map mk = r.map mk) ↔ l = r := ⟨fun e => by
          have := congrArg (List.map bs) e
          rwa [List.map_map, List.map_map, show (bs ∘ mk) = id from rfl, List.map_id, List.map_id] at this, fun e => by rw [e]⟩
        simp [this]
  · refine (Tryz.slices_Equal_string_lens a a' l.length c r.length c' w hlen).mono ?_
    rintro e w' ⟨rfl, rfl⟩
    exact ⟨ret_b (decide_eq_false fun e => hlen (by rw [e])).symm, Below.refl _ _⟩
end Go.Proofs.YtpnigkjmofhmbabGreat.Equal
end
section
namespace Go.Proofs.YtpnigkjmofhmbabGreat.Of
open Go.RowKit Go.Sort
open Go.Proofs.YtpnigkjmofhmbabGreat.SetMath
open Go.Proofs.YtpnigkjmofhmbabGreat.Base
set_option linter.unusedVariables false
set_option linter.unusedSimpArgs false
theorem clone_call {G : Nat → Prop} {w : World} {v : Value} {l : List El} (h : SL G w v l) (hb : l.length * 16 ≤ 140737488355328) :
    Calls Tryz.prog 66 #[v] w fun e w' => ∃ r, e = .returned r ∧ NR w.heap.size w' r l ∧ Below w.heap.size w w' := by
  obtain ⟨a, c, rfl, hc, hr⟩ := h
  cases a with
  | none =>
    have h0 : l = [] := by
      rcases hr with h | ⟨g, o, e, _⟩
      · exact h
      · cases e
    subst h0
    refine (Tryz.slices_Clone_string_nil 0 c w).mono ?_
    rintro e w' ⟨rfl, rfl⟩
    exact ⟨_, rfl, .inl ⟨rfl, rfl⟩, Below.refl _ _⟩
  | some a =>
    by_cases h0 : l = []
    · subst h0
      refine (Tryz.slices_Clone_string_zero a c w).mono ?_
      rintro e w' ⟨v', rfl, ho, _, hbl⟩
      exact ⟨v', rfl, NR.of_owns ho, hbl⟩
    · obtain ⟨g, o, e, _, hcell⟩ := Rd.get hr (List.length_pos_iff.2 h0)
      cases e
      refine (Tryz.slices_Clone_string g o l.length c (l.map mk) w (by simp) hb (fun j hj => ?_)).mono ?_
      · have hj' : j < l.length := by simpa using hj
        rw [hcell j l[j] (List.getElem?_eq_getElem hj')]
        simp [List.getD, hj']
      · rintro e w' ⟨v', rfl, ho, _, hbl⟩
        refine ⟨v', rfl, NR.of_owns ?_, hbl⟩
        rw [List.take_of_length_le (by simp), List.map_map] at ho
        exact ho
theorem sort_call {B : Nat} {w : World} {v : Value} {l : List El} (h : NR B w v l) (hb : l.length < 4611686018427387904) (hB : B ≤ w.heap.size) :
    Calls Tryz.prog 97 #[v] w fun e w' => e = .returned (.tuple #[]) ∧ NR B w' v (l.mergeSort leS) ∧ Below B w w' := by
  have hlen : (l.mergeSort leS).length = l.length := List.length_mergeSort l
  rcases h with ⟨rfl, rfl⟩ | ⟨g, c, cur, rfl, hBg, hr, hx, hl, ht⟩
  · refine (Tryz.slices_Sort_string_none none 0 w).mono ?_
    rintro e w' ⟨rfl, rfl⟩
    exact ⟨rfl, .inl ⟨rfl, by simp⟩, Below.refl _ _⟩
  · by_cases h0 : l = []
    · subst h0
      refine (Tryz.slices_Sort_string_none _ c w).mono ?_
      rintro e w' ⟨rfl, rfl⟩
      exact ⟨rfl, .inr ⟨g, c, cur, by simp, hBg, hr, hx, by simp, by simp⟩, Below.refl _ _⟩
    · have hH : Holds encStr w g 0 l.toArray := holds_of_block hr ht
      refine (Tryz.slices_Sort_string g 0 c l w hH (lt_of hr) hb).mono ?_
      rintro e w' ⟨rfl, n, os, rfl⟩
      refine ⟨rfl, .inr ⟨g, c, _, by rw [hlen], hBg, heap_sorted _ hr, by simp [putCells]; exact hx, by rw [hlen]; exact hl, take_putCells cur (l.mergeSort leS) (by rw [hlen]; omega)⟩, (Below.refl B w).grown (grownBy_sorted _) hB (fun j hj => by cases hj; exact hBg)⟩
theorem heap_put {w : World} {g n : Nat} {cur : Array Value} {e : TypeId} {fr : Nat × Nat} (d : Array (List UInt8)) (hb : w.heap[g]? = some (.cells cur e fr)) :
    (putRow encStr (Sort.ahead w n) g 0 d).heap[g]? = some (.cells (putCells encStr 0 d cur) e fr) := by
  simp [putRow, mapBlock, Sort.ahead, Array.getElem?_modify, hb, onCells]
theorem below_put {w : World} {B g n : Nat} (d : Array (List UInt8)) (hB : B ≤ g) : Below B w (putRow encStr (Sort.ahead w n) g 0 d) := by
  refine ⟨rfl, rfl, rfl, by simp [putRow, mapBlock, Sort.ahead], fun k hk => ?_⟩
  have : g ≠ k := by omega
  simp [putRow, mapBlock, Sort.ahead, Array.getElem?_modify, this]
theorem compact_call {B : Nat} {w : World} {v : Value} {l : List El} (h : NR B w v l) (hb : l.length < 4611686018427387904) (hB : B ≤ w.heap.size) :
    Calls Tryz.prog 197 #[v] w fun e w' => ∃ r, e = .returned r ∧ NR B w' r (Lib.compact l) ∧ Below B w w' := by
  have hle := comp_len l
  rcases h with ⟨rfl, rfl⟩ | ⟨g, c, cur, rfl, hBg, hr, hx, hl, ht⟩
  · refine (Tryz.slices_Compact_string_empty none 0 w).mono ?_
    rintro e w' ⟨rfl, rfl⟩
    exact ⟨_, rfl, .inl ⟨rfl, rfl⟩, Below.refl _ _⟩
  · by_cases h0 : l = []
    · subst h0
      refine (Tryz.slices_Compact_string_empty _ c w).mono ?_
      rintro e w' ⟨rfl, rfl⟩
      exact ⟨_, rfl, .inr ⟨g, c, cur, rfl, hBg, hr, hx, by simp [Lib.compact, Lib.compactUpTo], by simp [Lib.compact, Lib.compactUpTo]⟩, Below.refl _ _⟩
    · have hH : Holds encStr w g 0 l.toArray := holds_of_block hr ht
      refine (Tryz.slices_Compact_string g 0 c l w hH (by omega) hl).mono ?_
      rintro e w' ⟨rfl, q, rfl⟩
      refine ⟨_, rfl, .inr ⟨g, c, _, rfl, hBg, heap_put _ hr, by simp [putCells]; exact hx, by omega, ?_⟩, below_put _ hBg⟩
      have h1 := take_putCells cur (Lib.compact l ++ List.replicate (l.length - (Lib.compact l).length) []) (by simp; omega)
      have h2 := congrArg (List.take (Lib.compact l).length) h1
      rw [List.take_take, Nat.min_eq_left (by simp), List.map_append, List.take_left' (by simp)] at h2
      exact h2
set_option maxRecDepth 100000 in
theorem of_call {G : Nat → Prop} {w : World} {v : Value} {l : List El} (h : SL G w v l) (hb : l.length * 16 ≤ 140737488355328) :
    Calls Tryz.prog 193 #[v] w fun e w' => ∃ r, e = .returned r ∧ NR w.heap.size w' r (S l) ∧ Below w.heap.size w w' := by
  have HC := hid_of (clone_call h hb)
  obtain ⟨a, c, rfl, _, _⟩ := h
  go_enter Tryz.func193, Tryz.ntmps193
  go_wp2_with fail
  refine HC.out.mono ?_
  rintro e w1 ⟨r, rfl, n1, b1⟩
  have HS := hid_of (sort_call n1 (by omega) b1.size)
  obtain ⟨ra, rc, rfl, _⟩ := n1.shape
  have B1 := hid_of b1
  clear n1 b1
  go_wp2_with fail
  refine HS.out.mono ?_
  rintro e w2 ⟨rfl, n2, b2⟩
  have HK := hid_of (compact_call n2 (by rw [List.length_mergeSort]; omega) (Nat.le_trans B1.out.size b2.size))
  have B2 := hid_of (B1.out.trans b2)
  clear n2 b2
  go_wp2_with fail
  refine HK.out.mono ?_
  rintro e w3 ⟨r3, rfl, n3, b3⟩
  have N3 := hid_of (And.intro n3 (B2.out.trans b3))
  obtain ⟨ra3, rc3, rfl, _⟩ := n3.shape
  clear n3 b3
  go_wp2_with fail
  go_ret
  exact ⟨_, rfl, N3.out⟩
theorem contains_eq (l : List El) (m : Bs) : Lib.containsS ((l.map mk).take l.length) (mk m) = decide (m ∈ l) := by
  rw [Bool.eq_iff_iff, Lib.containsS_iff, decide_eq_true_eq, List.take_of_length_le (by simp), List.mem_map]
  constructor
  · rintro ⟨x, hx, e⟩
    rw [← mk_inj e]; exact hx
  · intro h
    exact ⟨m, h, rfl⟩
end Go.Proofs.YtpnigkjmofhmbabGreat.Of
end
section
namespace Go.Proofs.YtpnigkjmofhmbabGreat.Vals
open Go.RowKit Go.Maps
open Go.Proofs.YtpnigkjmofhmbabGreat.SetMath
open Go.Proofs.YtpnigkjmofhmbabGreat.ValueMath
open Go.Proofs.YtpnigkjmofhmbabGreat.Base
set_option linter.unusedVariables false

theorem madeFRow (w : World) : FRow.Bd w (.slice (some ⟨w.heap.size, 0, none⟩) 0 0) [] (w.alloc (.cells #[] 118)) := ⟨World.ownsRow_made w #[] 0 (Nat.le_refl _) (Nat.zero_le _) (by simp), FRow.bnew w _⟩
theorem eqlnFRow (a : Addr) (n c : Nat) (w : World) : (binOp .eql 35 (.slice (some a) n c) (.slice none 0 0)).run Tryz.prog w = .ok (.bool false) w := Lib.run_eql_slice_nil w _ _ (some a) n c 0 0 Tryz.underlying35
set_option maxHeartbeats 1000000 in
set_option maxRecDepth 100000 in
theorem cloneFRow {w : World} {v : Value} {l : FRow.LL} (h : FRow.FS w v l) (hn : l.length ≤ FRow.big) : Calls Tryz.prog 67 #[v] w fun e w' => ∃ v', e = .returned v' ∧ FRow.OR w.heap.size w' v' l ∧ Below w.heap.size w w' := by
  have hF := h
  obtain ⟨a, c, rfl, hc, h⟩ := h
  cases a with
  | none =>
    have hl : l = [] := by rcases h with h | ⟨g, o, e, _⟩; exact h; cases e
    subst hl
    clear h hF
    show Calls Tryz.prog 67 #[.slice none 0 c] w _
    have hq : ∀ W, (binOp .eql 35 (.slice none 0 c) (.slice none 0 0)).run Tryz.prog W = .ok (.bool true) W := fun W => Lib.run_eql_slice_nil W _ _ none 0 c 0 0 Tryz.underlying35
    go_enter Tryz.func67, Tryz.ntmps67
    go_wp2
    go_ret
    exact ⟨_, rfl, FRow.or_nil _ _, Below.refl _ _⟩
  | some a =>
    have hq := eqlnFRow a l.length c
    obtain ⟨v', W', hr, hbd⟩ := FRow.bd_app (madeFRow w) (.slice (some a) l.length c) l (hF.below (FRow.bnew w _)) (by simpa using hn)
    have HB := hid_of hbd
    clear hbd hF h
    go_enter Tryz.func67, Tryz.ntmps67
    go_wp2_with (at_builtin; refine wpl_eq rfl _ _ 35 35 rfl (.slice (some ⟨w.heap.size, 0, none⟩) 0 0) (.slice (some a) l.length c) v' _ W' rfl rfl hr ?_)
    go_ret
    exact ⟨v', rfl, HB.out.row, HB.out.bel⟩
theorem shapeFRow {B : Nat} {w : World} {v : Value} {l : FRow.LL} (h : FRow.OR B w v l) : ∃ a c, v = .slice a l.length c := by
  obtain ⟨a, c, e, _⟩ := FRow.fs_row h
  exact ⟨a, c, e⟩

theorem madeERow (w : World) : ERow.Bd w (.slice (some ⟨w.heap.size, 0, none⟩) 0 0) [] (w.alloc (.cells #[] 120)) := ⟨World.ownsRow_made w #[] 0 (Nat.le_refl _) (Nat.zero_le _) (by simp), ERow.bnew w _⟩
theorem eqlnERow (a : Addr) (n c : Nat) (w : World) : (binOp .eql 36 (.slice (some a) n c) (.slice none 0 0)).run Tryz.prog w = .ok (.bool false) w := Lib.run_eql_slice_nil w _ _ (some a) n c 0 0 Tryz.underlying36
set_option maxHeartbeats 1000000 in
set_option maxRecDepth 100000 in
theorem cloneERow {w : World} {v : Value} {l : ERow.LL} (h : ERow.FS w v l) (hn : l.length ≤ ERow.big) : Calls Tryz.prog 68 #[v] w fun e w' => ∃ v', e = .returned v' ∧ ERow.OR w.heap.size w' v' l ∧ Below w.heap.size w w' := by
  have hF := h
  obtain ⟨a, c, rfl, hc, h⟩ := h
  cases a with
  | none =>
    have hl : l = [] := by rcases h with h | ⟨g, o, e, _⟩; exact h; cases e
    subst hl
    clear h hF
    show Calls Tryz.prog 68 #[.slice none 0 c] w _
    have hq : ∀ W, (binOp .eql 36 (.slice none 0 c) (.slice none 0 0)).run Tryz.prog W = .ok (.bool true) W := fun W => Lib.run_eql_slice_nil W _ _ none 0 c 0 0 Tryz.underlying36
    go_enter Tryz.func68, Tryz.ntmps68
    go_wp2
    go_ret
    exact ⟨_, rfl, ERow.or_nil _ _, Below.refl _ _⟩
  | some a =>
    have hq := eqlnERow a l.length c
    obtain ⟨v', W', hr, hbd⟩ := ERow.bd_app (madeERow w) (.slice (some a) l.length c) l (hF.below (ERow.bnew w _)) (by simpa using hn)
    have HB := hid_of hbd
    clear hbd hF h
    go_enter Tryz.func68, Tryz.ntmps68
    go_wp2_with (at_builtin; refine wpl_eq rfl _ _ 36 36 rfl (.slice (some ⟨w.heap.size, 0, none⟩) 0 0) (.slice (some a) l.length c) v' _ W' rfl rfl hr ?_)
    go_ret
    exact ⟨v', rfl, HB.out.row, HB.out.bel⟩
theorem shapeERow {B : Nat} {w : World} {v : Value} {l : ERow.LL} (h : ERow.OR B w v l) : ∃ a c, v = .slice a l.length c := by
  obtain ⟨a, c, e, _⟩ := ERow.fs_row h
  exact ⟨a, c, e⟩

abbrev TT : Nat → Prop := fun _ => True
theorem box5 {w : World} {b : Nat} {x0 x1 x2 x3 x4 : Value} {t : TypeId} (h : w.heap[b]? = some (.cells #[x0, x1, x2, x3, x4] t (0, 0))) :
    (w.cell? ⟨b, 0, none⟩ = some x0 ∧ w.cell? ⟨b, 1, none⟩ = some x1 ∧ w.cell? ⟨b, 2, none⟩ = some x2 ∧ w.cell? ⟨b, 3, none⟩ = some x3 ∧ w.cell? ⟨b, 4, none⟩ = some x4) ∧ ∀ i, w.frozen? ⟨b, i, none⟩ = false :=
  ⟨⟨Lib.cell_of_heap h 0, Lib.cell_of_heap h 1, Lib.cell_of_heap h 2, Lib.cell_of_heap h 3, Lib.cell_of_heap h 4⟩, fun i => Lib.frozen_of_heap h i⟩
theorem box3 {w : World} {b : Nat} {x0 x1 x2 : Value} {t : TypeId} (h : w.heap[b]? = some (.cells #[x0, x1, x2] t (0, 0))) :
    (w.cell? ⟨b, 0, none⟩ = some x0 ∧ w.cell? ⟨b, 1, none⟩ = some x1 ∧ w.cell? ⟨b, 2, none⟩ = some x2) ∧ ∀ i, w.frozen? ⟨b, i, none⟩ = false :=
  ⟨⟨Lib.cell_of_heap h 0, Lib.cell_of_heap h 1, Lib.cell_of_heap h 2⟩, fun i => Lib.frozen_of_heap h i⟩
theorem box2 {w : World} {b : Nat} {x0 x1 : Value} {t : TypeId} (h : w.heap[b]? = some (.cells #[x0, x1] t (0, 0))) :
    (w.cell? ⟨b, 0, none⟩ = some x0 ∧ w.cell? ⟨b, 1, none⟩ = some x1) ∧ ∀ i, w.frozen? ⟨b, i, none⟩ = false :=
  ⟨⟨Lib.cell_of_heap h 0, Lib.cell_of_heap h 1⟩, fun i => Lib.frozen_of_heap h i⟩
/- a value that is read -/
def VA (w : World) (v : Value) (x : Vl) : Prop := ∃ a b c, v = .agg #[.int .i64 x.kind, .string (mk x.text), a, b, c] ∧ SL TT w a x.list ∧ FRow.FS w b x.fields ∧ ERow.FS w c x.ranked
/- a value in new memory, from block B on -/
def VN (B : Nat) (w : World) (v : Value) (x : Vl) : Prop := ∃ a b c, v = .agg #[.int .i64 x.kind, .string (mk x.text), a, b, c] ∧ NR B w a x.list ∧ FRow.OR B w b x.fields ∧ ERow.OR B w c x.ranked
structure Fit (x : Vl) : Prop where
  l : x.list.length * 16 ≤ 140737488355328
  f : x.fields.length ≤ FRow.big
  r : x.ranked.length ≤ ERow.big
theorem nr_sl {B : Nat} {w : World} {v : Value} {l : List El} (h : NR B w v l) : SL TT w v l := h.sl.mono fun _ _ _ => trivial
theorem VN.va {B : Nat} {w : World} {v : Value} {x : Vl} (h : VN B w v x) : VA w v x := by
  obtain ⟨a, b, c, rfl, h1, h2, h3⟩ := h
  exact ⟨a, b, c, rfl, nr_sl h1, FRow.fs_row h2, ERow.fs_row h3⟩
theorem VA.below {w w' : World} {v : Value} {x : Vl} (h : VA w v x) (hb : Below w.heap.size w w') : VA w' v x := by
  obtain ⟨a, b, c, rfl, h1, h2, h3⟩ := h
  exact ⟨a, b, c, rfl, h1.below hb, h2.below hb, h3.below hb⟩
theorem VN.below {B : Nat} {w w' : World} {v : Value} {x : Vl} (h : VN B w v x) (hb : Below w.heap.size w w') : VN B w' v x := by
  obtain ⟨a, b, c, rfl, h1, h2, h3⟩ := h
  exact ⟨a, b, c, rfl, h1.below hb, FRow.row_below h2 hb, ERow.row_below h3 hb⟩
theorem VN.mono {B B' : Nat} {w : World} {v : Value} {x : Vl} (h : VN B w v x) (hB : B' ≤ B) : VN B' w v x := by
  obtain ⟨a, b, c, rfl, h1, h2, h3⟩ := h
  exact ⟨a, b, c, rfl, h1.mono hB, FRow.row_mono h2 hB, ERow.row_mono h3 hB⟩
theorem bset {B : Nat} {w w' : World} (h : Below B w w') {b i : Nat} (hb : B ≤ b) (v : Value) : Below B w (w'.setCell ⟨b, i, none⟩ v) := h.setCell hb v
theorem seton {w : World} {b i : Nat} {v : Value} {B : Nat} (hB : B ≤ b) : Below B w (w.setCell ⟨b, i, none⟩ v) := (Below.refl B w).setCell hB v
end Go.Proofs.YtpnigkjmofhmbabGreat.Vals
end
