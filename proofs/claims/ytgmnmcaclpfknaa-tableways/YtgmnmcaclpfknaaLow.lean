/- Lower of both sides, and what is shown of a name. -/
import Derived.Test.YtgmnmcaclpfknaaBase
import Derived.Laws.IdiomStrings
namespace Go.Proofs.Ytgmnmcaclpfknaa.Low
open Go.RowKit
open Go.Proofs.Ytgmnmcaclpfknaa.Base
set_option linter.unusedVariables false
set_option linter.unusedSimpArgs false
def low (c : UInt8) : UInt8 := if 65 ≤ c.toNat ∧ c.toNat ≤ 90 then UInt8.ofNat (c.toNat + 32) else c
theorem low_yes {c : UInt8} (h1 : 65 ≤ c.toNat) (h2 : c.toNat ≤ 90) : ((low c).toNat : Int) = (c.toNat : Int) + 32 := by
  unfold low
  rw [if_pos ⟨h1, h2⟩]
  have : (UInt8.ofNat (c.toNat + 32)).toNat = c.toNat + 32 := by
    rw [UInt8.toNat_ofNat']; omega
  omega
theorem low_no {c : UInt8} (h : ¬ (65 ≤ c.toNat ∧ c.toNat ≤ 90)) : low c = c := by unfold low; rw [if_neg h]
def vis (c : UInt8) : UInt8 := if c.toNat < 32 ∨ 126 < c.toNat then 63 else c
theorem vis_yes {c : UInt8} (h : c.toNat < 32 ∨ 126 < c.toNat) : vis c = 63 := by unfold vis; rw [if_pos h]
theorem vis_no {c : UInt8} (h : ¬ (c.toNat < 32 ∨ 126 < c.toNat)) : vis c = c := by unfold vis; rw [if_neg h]
/-- The first k bytes turned, the others as they were. -/
def part (f : UInt8 → UInt8) (l : List UInt8) (k : Nat) : List UInt8 := (l.take k).map f ++ l.drop k
section
variable (f : UInt8 → UInt8) (l : List UInt8) (k : Nat)
theorem part_zero : part f l 0 = l := by simp [part]
theorem part_all (h : l.length ≤ k) : part f l k = l.map f := by
  unfold part
  rw [List.take_of_length_le h, List.drop_eq_nil_of_le h, List.append_nil]
theorem part_len : (part f l k).length = l.length := by
  unfold part
  rw [List.length_append, List.length_map, List.length_take, List.length_drop]; omega
theorem part_at (h : k < l.length) (hl : k < (part f l k).length) : (part f l k)[k] = l[k] := by
  have h1 : ((l.take k).map f).length = k := by rw [List.length_map, List.length_take]; omega
  have h2 : (part f l k)[k]? = some l[k] := by
    unfold part
    rw [List.getElem?_append_right (by omega), h1, Nat.sub_self, List.drop_eq_getElem_cons h]
    rfl
  rw [List.getElem?_eq_getElem hl] at h2
  exact Option.some.inj h2
theorem part_next (h : k < l.length) : (part f l k).set k (f l[k]) = part f l (k + 1) := by
  have h1 : ((l.take k).map f).length = k := by rw [List.length_map, List.length_take]; omega
  unfold part
  rw [List.set_append_right _ _ (by omega), h1, Nat.sub_self, List.drop_eq_getElem_cons h, List.set_cons_zero, List.take_succ_eq_append_getElem h, List.map_append, List.append_assoc]
  rfl
theorem part_same (h : k < l.length) (e : f l[k] = l[k]) : part f l k = part f l (k + 1) := by
  rw [← part_next f l k h, e]
  have := part_at f l k h (by rw [part_len]; exact h)
  rw [← this, List.set_getElem_self]
end
/- rows of bytes -/
def BRow (w : World) (B : Nat) (l : List UInt8) : Prop :=
  ∃ (C : Array Value) (N : Nat), w.heap[B]? = some (.cells C 5 (N, N + 1)) ∧ C.size = N ∧ l.length ≤ N ∧ ∀ j (h : j < l.length), C[j]? = some (.int .u8 l[j].toNat)
theorem BRow.cell {w : World} {B : Nat} {l : List UInt8} (h : BRow w B l) (j : Nat) (hj : j < l.length) : w.cell? ⟨B, j, none⟩ = some (.int .u8 l[j].toNat) := by
  obtain ⟨C, N, h1, h2, h3, h4⟩ := h
  rw [cell_of_row w B j _ _ _ h1, h4 j hj]
theorem BRow.frozen {w : World} {B : Nat} {l : List UInt8} (h : BRow w B l) (j : Nat) (hj : j < l.length) : w.frozen? ⟨B, j, none⟩ = false := by
  obtain ⟨C, N, h1, h2, h3, h4⟩ := h
  simp only [World.frozen?, h1]
  have : ¬ N ≤ j := by omega
  simp [this]
theorem BRow.put {w : World} {B : Nat} {l : List UInt8} (h : BRow w B l) (j : Nat) {X : Int} (c : UInt8) (hX : X = (c.toNat : Int)) : BRow (w.setCell ⟨B, j, none⟩ (.int .u8 X)) B (l.set j c) := by
  obtain ⟨C, N, h1, h2, h3, h4⟩ := h
  subst hX
  refine ⟨C.setIfInBounds j (.int .u8 c.toNat), N, ?_, by simp [h2], by rw [List.length_set]; exact h3, fun i hi => ?_⟩
  · simp [World.setCell, Array.getElem?_modify, h1]
  · rw [List.length_set] at hi
    rw [Array.getElem?_setIfInBounds, List.getElem_set]
    by_cases e : j = i
    · subst e; simp; omega
    · rw [if_neg e, if_neg e, h4 i hi]
theorem conv_in (l : List UInt8) (w : World) : ∃ cap w0, (convert 9 37 (.string (mk l))).run Try.prog w = .ok (.slice (some ⟨w.heap.size, 0, none⟩) l.length cap) w0 ∧ BRow w0 w.heap.size l ∧ Below w.heap.size w w0 := by
  have hq := run_bytes_of_string w 9 37 5 (mk l) Try.underlying9 Try.underlying37 Try.underlying5
  rw [mk_size] at hq
  refine ⟨_, _, hq, ⟨bytesRow (mk l) (grownCap w l.length 0 5), _, ?_, rfl, ?_, ?_⟩, ((Below.refl _ w).drew).alloc (Nat.le_refl _) _⟩
  · exact heap_alloc_new w.drew _
  · rw [← mk_size l]
    simp [bytesRow]
  · intro j hj
    unfold bytesRow
    rw [Array.getElem?_append_left (by simpa [mk] using hj), Array.getElem?_map]
    simp [mk, hj]
theorem conv_out {w : World} {B cap n : Nat} {l : List UInt8} (h : BRow w B l) (hn : n = l.length) : (convert 37 9 (.slice (some ⟨B, 0, none⟩) n cap)).run Try.prog w = .ok (.string (mk l)) w := by
  subst hn
  refine run_convert_bytes_back w 37 9 5 ⟨B, 0, none⟩ cap l Try.underlying37 Try.underlying5 Try.underlying9 (fun j hj => ?_)
  have e : (⟨B, 0, none⟩ : Addr).add j = ⟨B, j, none⟩ := by
    by_cases h0 : j = 0
    · subst h0; rfl
    · simp [Addr.add, h0]
  rw [e]
  exact h.cell j hj
theorem cut32 (l : List UInt8) : (mk l).extract 0 (min l.length 32) = mk (l.take 32) := by
  apply ByteArray.ext
  rw [ByteArray.data_extract]
  apply Array.toList_inj.1
  rw [Array.toList_extract]
  show (l.toArray.toList).extract 0 _ = (l.take 32)
  rw [List.extract_eq_take_drop, List.drop_zero, Nat.sub_zero]
  exact (List.take_eq_take_iff).2 (by simp [Nat.min_comm])
theorem ret_s {a b : ByteArray} (h : a = b) : Ending.returned (.string a) = .returned (.string b) := by rw [h]
theorem wrap8 (x : Int) (h : 0 ≤ x) (h2 : x < 256) : IntKind.u8.wrap x = x := by
  unfold IntKind.wrap
  simp [IntKind.signed, IntKind.bits]
  omega
set_option maxRecDepth 100000 in
set_option maxHeartbeats 1000000 in
theorem lower_call (l : List UInt8) (w : World) (hs : l.length < 9223372036854775808) :
    Calls Try.prog 10 #[.string (mk l)] w fun e w' => e = .returned (.string (mk (l.map low))) ∧ Below w.heap.size w w' := by
  obtain ⟨cap, w0, hconv, hrow, hbel⟩ := conv_in l w
  have H0 := hid_of hrow
  have HB0 := hid_of hbel
  clear hrow hbel
  obtain ⟨N, HN⟩ : ∃ N, Hid (N = l.length) := ⟨_, hid_of rfl⟩
  rw [← HN.out] at hconv
  have hN : N < 9223372036854775808 := by rw [HN.out]; exact hs
  clear hs
  generalize mk l = S at *
  go_enter Try.func10, Try.ntmps10
  go_wp2
  clear hconv
  go_loopg [10] N (fun g s4 wx => ∃ k : Nat, k ≤ N ∧ N ≤ k + g ∧ s4 = .int .i64 k ∧ Hid (BRow wx w.heap.size (part low l k)) ∧ Hid (Below w.heap.size w wx))
  case atStart => exact ⟨0, by omega, by omega, rfl, by show BRow _ _ _; rw [part_zero]; exact H0.out, HB0⟩
  case round =>
    clear H0 HB0
    obtain ⟨k, hk, hg, rfl, HR, HB⟩ := hrel
    by_cases hlt : k < N
    · obtain ⟨g', rfl⟩ : ∃ g', gk = g' + 1 := ⟨gk - 1, by omega⟩
      have hll : k < l.length := by rw [← HN.out]; exact hlt
      have hl : k < (part low l k).length := by rw [part_len]; exact hll
      have hc := HR.out.cell k hl
      have hf := HR.out.frozen k hl
      rw [part_at low l k hll hl] at hc
      have HX := hid_of (part_next low l k hll)
      have HS := hid_of (part_same low l k hll)
      obtain ⟨c, hcc⟩ : ∃ c, c = (l[k]'hll) := ⟨_, rfl⟩
      rw [← hcc] at hc HX HS
      have w1 : IntKind.i64.wrap ((k : Int) + 1) = (k : Int) + 1 := IntWalk.i64_in _ (by omega)
      have b1 : c.toNat < 256 := c.toNat_lt
      clear hcc hll hl
      by_cases h1 : 65 ≤ c.toNat
      · have t1 : decide ((65 : Int) ≤ (c.toNat : Int)) = true := by simp; omega
        by_cases h2 : c.toNat ≤ 90
        · have t2 : decide ((c.toNat : Int) ≤ 90) = true := by simp; omega
          have w2 : IntKind.u8.wrap ((c.toNat : Int) - 65) = (c.toNat : Int) - 65 := wrap8 _ (by omega) (by omega)
          have w3 : IntKind.u8.wrap ((c.toNat : Int) - 65 + 97) = (c.toNat : Int) + 32 := by rw [wrap8 _ (by omega) (by omega)]; omega
          have w4 : IntKind.u8.wrap ((c.toNat : Int) + 32) = (c.toNat : Int) + 32 := wrap8 _ (by omega) (by omega)
          have HL := hid_of (low_yes h1 h2)
          go_wp2
          go_roundg g'
          case measure => omega
          case rel => exact ⟨k + 1, by omega, by omega, by simp, by show BRow _ _ _; rw [← HX.out]; exact HR.out.put k _ (by exact HL.out.symm), HB.out.setCell (Nat.le_refl _) _⟩
        · have t2 : decide ((c.toNat : Int) ≤ 90) = false := by simp; omega
          have HL := hid_of (low_no (c := c) (by omega))
          go_wp2
          go_roundg g'
          case measure => omega
          case rel => exact ⟨k + 1, by omega, by omega, by simp, by show BRow _ _ _; rw [← HS.out (HL.out)]; exact HR.out, HB⟩
      · have t1 : decide ((65 : Int) ≤ (c.toNat : Int)) = false := by simp; omega
        have HL := hid_of (low_no (c := c) (by omega))
        go_wp2
        go_roundg g'
        case measure => omega
        case rel => exact ⟨k + 1, by omega, by omega, by simp, by show BRow _ _ _; rw [← HS.out (HL.out)]; exact HR.out, HB⟩
    · have hcv := conv_out (cap := cap) (n := N) HR.out (by rw [part_len]; exact HN.out)
      have HP := hid_of (part_all low l k (by have := HN.out; omega))
      have d1 : ¬ (k : Int) < (N : Int) := by omega
      go_wp2
      go_ret
      exact ⟨ret_s (by rw [HP.out]; try rw [List.map_take]), HB.out⟩
set_option maxRecDepth 100000 in
set_option maxHeartbeats 1000000 in
theorem rlower_call (l : List UInt8) (w : World) (hs : l.length < 9223372036854775808) :
    Calls Try.prog 11 #[.string (mk l)] w fun e w' => e = .returned (.string (mk (l.map low))) ∧ Below w.heap.size w w' := by
  obtain ⟨cap, w0, hconv, hrow, hbel⟩ := conv_in l w
  have H0 := hid_of hrow
  have HB0 := hid_of hbel
  clear hrow hbel
  obtain ⟨N, HN⟩ : ∃ N, Hid (N = l.length) := ⟨_, hid_of rfl⟩
  rw [← HN.out] at hconv
  have hN : N < 9223372036854775808 := by rw [HN.out]; exact hs
  clear hs
  generalize mk l = S at *
  go_enter Try.func11, Try.ntmps11
  go_wp2
  clear hconv
  go_loopg [4] N (fun g s4 wx => ∃ k : Nat, k ≤ N ∧ N ≤ k + g ∧ s4 = .int .i64 k ∧ Hid (BRow wx w.heap.size (part low l k)) ∧ Hid (Below w.heap.size w wx))
  case atStart => exact ⟨0, by omega, by omega, rfl, by show BRow _ _ _; rw [part_zero]; exact H0.out, HB0⟩
  case round =>
    clear H0 HB0
    obtain ⟨k, hk, hg, rfl, HR, HB⟩ := hrel
    by_cases hlt : k < N
    · obtain ⟨g', rfl⟩ : ∃ g', gk = g' + 1 := ⟨gk - 1, by omega⟩
      have hll : k < l.length := by rw [← HN.out]; exact hlt
      have hl : k < (part low l k).length := by rw [part_len]; exact hll
      have hc := HR.out.cell k hl
      have hf := HR.out.frozen k hl
      rw [part_at low l k hll hl] at hc
      have HX := hid_of (part_next low l k hll)
      have HS := hid_of (part_same low l k hll)
      obtain ⟨c, hcc⟩ : ∃ c, c = (l[k]'hll) := ⟨_, rfl⟩
      rw [← hcc] at hc HX HS
      have w1 : IntKind.i64.wrap ((k : Int) + 1) = (k : Int) + 1 := IntWalk.i64_in _ (by omega)
      have b1 : c.toNat < 256 := c.toNat_lt
      clear hcc hll hl
      by_cases h1 : 65 ≤ c.toNat
      · have t1 : decide ((65 : Int) ≤ (c.toNat : Int)) = true := by simp; omega
        by_cases h2 : c.toNat ≤ 90
        · have t2 : decide ((c.toNat : Int) ≤ 90) = true := by simp; omega
          have w2 : IntKind.u8.wrap ((c.toNat : Int) - 65) = (c.toNat : Int) - 65 := wrap8 _ (by omega) (by omega)
          have w3 : IntKind.u8.wrap ((c.toNat : Int) - 65 + 97) = (c.toNat : Int) + 32 := by rw [wrap8 _ (by omega) (by omega)]; omega
          have w4 : IntKind.u8.wrap ((c.toNat : Int) + 32) = (c.toNat : Int) + 32 := wrap8 _ (by omega) (by omega)
          have HL := hid_of (low_yes h1 h2)
          go_wp2
          go_roundg g'
          case measure => omega
          case rel => exact ⟨k + 1, by omega, by omega, by simp, by show BRow _ _ _; rw [← HX.out]; exact HR.out.put k _ (by exact HL.out.symm), HB.out.setCell (Nat.le_refl _) _⟩
        · have t2 : decide ((c.toNat : Int) ≤ 90) = false := by simp; omega
          have HL := hid_of (low_no (c := c) (by omega))
          go_wp2
          go_roundg g'
          case measure => omega
          case rel => exact ⟨k + 1, by omega, by omega, by simp, by show BRow _ _ _; rw [← HS.out (HL.out)]; exact HR.out, HB⟩
      · have t1 : decide ((65 : Int) ≤ (c.toNat : Int)) = false := by simp; omega
        have HL := hid_of (low_no (c := c) (by omega))
        go_wp2
        go_roundg g'
        case measure => omega
        case rel => exact ⟨k + 1, by omega, by omega, by simp, by show BRow _ _ _; rw [← HS.out (HL.out)]; exact HR.out, HB⟩
    · have hcv := conv_out (cap := cap) (n := N) HR.out (by rw [part_len]; exact HN.out)
      have HP := hid_of (part_all low l k (by have := HN.out; omega))
      have d1 : ¬ (k : Int) < (N : Int) := by omega
      go_wp2
      go_ret
      exact ⟨ret_s (by rw [HP.out]; try rw [List.map_take]), HB.out⟩
set_option maxRecDepth 100000 in
set_option maxHeartbeats 1000000 in
theorem shown_call (l : List UInt8) (w : World) (hs : l.length < 9223372036854775808) :
    Calls Try.prog 37 #[.string (mk l)] w fun e w' => e = .returned (.string (mk ((l.take 32).map vis))) ∧ Below w.heap.size w w' := by
  obtain ⟨M, hM⟩ : ∃ M : Nat, M = min l.length 32 := ⟨_, rfl⟩
  have hs2 : (l.take 32).length < 9223372036854775808 := by rw [List.length_take]; omega
  have hz : (mk l).size = l.length := mk_size l
  have hcut : (Instr.slice 9 (.string (mk l)) none (some (.int .i64 (min (l.length : Int) 32))) none).run Try.prog w = .ok (.string (mk (l.take 32))) w := by
    have h1 : (min (l.length : Int) 32) = ((min l.length 32 : Nat) : Int) := by omega
    have h2 : ((min l.length 32 : Nat) : Int) ≤ (l.length : Int) := by omega
    rw [h1]
    simp [Instr.slice, run_underlying Try.underlying9, Instr.sliceBounds, run_sliceBound, hz, h2]
    exact cut32 l
  obtain ⟨K, HK⟩ : ∃ K, Hid (K = l.length) := ⟨_, hid_of rfl⟩
  rw [← HK.out] at hz hcut
  obtain ⟨cap, w0, hconv, hrow, hbel⟩ := conv_in (l.take 32) w
  have H0 := hid_of hrow
  have HB0 := hid_of hbel
  clear hrow hbel
  obtain ⟨N, HN⟩ : ∃ N, Hid (N = (l.take 32).length) := ⟨_, hid_of rfl⟩
  rw [← HN.out] at hconv
  have hN : N < 9223372036854775808 := by rw [HN.out]; exact hs2
  clear hs hs2
  generalize mk l = S at *
  go_enter Try.func37, Try.ntmps37
  go_wp2
  clear hconv
  go_loopg [14] N (fun g s4 wx => ∃ k : Nat, k ≤ N ∧ N ≤ k + g ∧ s4 = .int .i64 k ∧ Hid (BRow wx w.heap.size (part vis (l.take 32) k)) ∧ Hid (Below w.heap.size w wx))
  case atStart => exact ⟨0, by omega, by omega, rfl, by show BRow _ _ _; rw [part_zero]; exact H0.out, HB0⟩
  case round =>
    clear H0 HB0
    obtain ⟨k, hk, hg, rfl, HR, HB⟩ := hrel
    by_cases hlt : k < N
    · obtain ⟨g', rfl⟩ : ∃ g', gk = g' + 1 := ⟨gk - 1, by omega⟩
      have hll : k < (l.take 32).length := by rw [← HN.out]; exact hlt
      have hl : k < (part vis (l.take 32) k).length := by rw [part_len]; exact hll
      have hc := HR.out.cell k hl
      have hf := HR.out.frozen k hl
      rw [part_at vis (l.take 32) k hll hl] at hc
      have HX := hid_of (part_next vis (l.take 32) k hll)
      have HS := hid_of (part_same vis (l.take 32) k hll)
      obtain ⟨c, hcc⟩ : ∃ c, c = ((l.take 32)[k]'hll) := ⟨_, rfl⟩
      rw [← hcc] at hc HX HS
      have w1 : IntKind.i64.wrap ((k : Int) + 1) = (k : Int) + 1 := IntWalk.i64_in _ (by omega)
      have b1 : c.toNat < 256 := c.toNat_lt
      clear hcc hll hl
      by_cases h1 : c.toNat < 32
      · have t1 : decide ((c.toNat : Int) < 32) = true := by simp; omega
        have HL := hid_of (vis_yes (c := c) (.inl h1))
        go_wp2
        go_roundg g'
        case measure => omega
        case rel => exact ⟨k + 1, by omega, by omega, by simp, by show BRow _ _ _; rw [← HX.out]; exact HR.out.put k _ (by rw [HL.out]; rfl), HB.out.setCell (Nat.le_refl _) _⟩
      · have t1 : decide ((c.toNat : Int) < 32) = false := by simp; omega
        by_cases h2 : 126 < c.toNat
        · have t2 : decide (126 < (c.toNat : Int)) = true := by simp; omega
          have HL := hid_of (vis_yes (c := c) (.inr h2))
          go_wp2
          go_roundg g'
          case measure => omega
          case rel => exact ⟨k + 1, by omega, by omega, by simp, by show BRow _ _ _; rw [← HX.out]; exact HR.out.put k _ (by rw [HL.out]; rfl), HB.out.setCell (Nat.le_refl _) _⟩
        · have t2 : decide (126 < (c.toNat : Int)) = false := by simp; omega
          have HL := hid_of (vis_no (c := c) (by omega))
          go_wp2
          go_roundg g'
          case measure => omega
          case rel => exact ⟨k + 1, by omega, by omega, by simp, by show BRow _ _ _; rw [← HS.out (HL.out)]; exact HR.out, HB⟩
    · have hcv := conv_out (cap := cap) (n := N) HR.out (by rw [part_len]; exact HN.out)
      have HP := hid_of (part_all vis (l.take 32) k (by have := HN.out; omega))
      have d1 : ¬ (k : Int) < (N : Int) := by omega
      go_wp2
      go_ret
      exact ⟨ret_s (by rw [HP.out]; try rw [List.map_take]), HB.out⟩
end Go.Proofs.Ytgmnmcaclpfknaa.Low
