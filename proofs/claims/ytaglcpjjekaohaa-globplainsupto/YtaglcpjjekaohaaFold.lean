/- The contracts of glob's smallLetters and of the document's own Lower: each letter A to Z as the small one. -/
import Derived.Test.YtaglcpjjekaohaaClass
import Derived.Laws.IdiomStrings
namespace Go.Proofs.Ytaglcpjjekaohaa.Fold
open Go.RowKit
open Go.Proofs.Ytaglcpjjekaohaa.Math
open Go.Proofs.Ytaglcpjjekaohaa.Class
set_option linter.unusedVariables false

def low (c : UInt8) : UInt8 := if 65 ≤ c.toNat ∧ c.toNat ≤ 90 then UInt8.ofNat (c.toNat + 32) else c
theorem low_yes {c : UInt8} (h1 : 65 ≤ c.toNat) (h2 : c.toNat ≤ 90) : ((low c).toNat : Int) = (c.toNat : Int) + 32 := by
  unfold low
  rw [if_pos ⟨h1, h2⟩]
  have : (UInt8.ofNat (c.toNat + 32)).toNat = c.toNat + 32 := by
    rw [UInt8.toNat_ofNat']; omega
  omega
theorem low_no {c : UInt8} (h : ¬ (65 ≤ c.toNat ∧ c.toNat ≤ 90)) : low c = c := by unfold low; rw [if_neg h]
def lowS (s : ByteArray) : ByteArray := ⟨((bs s).map low).toArray⟩
theorem lowS_bs (s : ByteArray) : bs (lowS s) = (bs s).map low := rfl
theorem lowS_size (s : ByteArray) : (lowS s).size = s.size := by
  rw [← bs_len, lowS_bs, List.length_map, bs_len]
/-- The first k bytes as small letters, the others as they were. -/
def part (s : ByteArray) (k : Nat) : List UInt8 := ((bs s).take k).map low ++ (bs s).drop k
theorem part_zero (s : ByteArray) : part s 0 = bs s := by simp [part]
theorem part_all (s : ByteArray) (k : Nat) (h : s.size ≤ k) : part s k = (bs s).map low := by
  unfold part
  rw [List.take_of_length_le (by rw [bs_len]; exact h), drop_end s k h, List.append_nil]
theorem part_len (s : ByteArray) (k : Nat) : (part s k).length = s.size := by
  unfold part
  rw [List.length_append, List.length_map, List.length_take, List.length_drop, bs_len]; omega
theorem part_at (s : ByteArray) (k : Nat) (h : k < s.size) (hl : k < (part s k).length) : (part s k)[k] = s[k] := by
  have h1 : (((bs s).take k).map low).length = k := by rw [List.length_map, List.length_take, bs_len]; omega
  have h2 : (part s k)[k]? = some s[k] := by
    unfold part
    rw [List.getElem?_append_right (by omega), h1, Nat.sub_self, drop_cons s k h]
    rfl
  rw [List.getElem?_eq_getElem hl] at h2
  exact Option.some.inj h2
theorem part_next (s : ByteArray) (k : Nat) (h : k < s.size) : (part s k).set k (low s[k]) = part s (k + 1) := by
  have h1 : (((bs s).take k).map low).length = k := by rw [List.length_map, List.length_take, bs_len]; omega
  unfold part
  rw [List.set_append_right _ _ (by omega), h1, Nat.sub_self, drop_cons s k h, List.set_cons_zero, List.take_succ_eq_append_getElem (by rw [bs_len]; exact h), List.map_append, List.append_assoc]
  rfl
theorem part_same (s : ByteArray) (k : Nat) (h : k < s.size) (e : low s[k] = s[k]) : part s k = part s (k + 1) := by
  rw [← part_next s k h, e]
  have := part_at s k h (by rw [part_len]; exact h)
  rw [← this, List.set_getElem_self]

/-! ### rows of bytes -/
def BRow (w : World) (B : Nat) (l : List UInt8) : Prop :=
  ∃ (C : Array Value) (N : Nat), w.heap[B]? = some (.cells C 5 (N, N + 1)) ∧ C.size = N ∧ l.length ≤ N ∧ ∀ j (h : j < l.length), C[j]? = some (.int .u8 l[j].toNat)
theorem BRow.cell {w : World} {B : Nat} {l : List UInt8} (h : BRow w B l) (j : Nat) (hj : j < l.length) : w.cell? ⟨B, j, none⟩ = some (.int .u8 l[j].toNat) := by
  obtain ⟨C, N, h1, h2, h3, h4⟩ := h
  rw [cell_of_row w B j _ _ _ h1, h4 j hj]
theorem BRow.frozen {w : World} {B : Nat} {l : List UInt8} (h : BRow w B l) (j : Nat) (hj : j < l.length) : w.frozen? ⟨B, j, none⟩ = false := by
  obtain ⟨C, N, h1, h2, h3, h4⟩ := h
  simp only [World.frozen?, h1]
  have : ¬ N ≤ j := by omega
  simp [this]
theorem BRow.put {w : World} {B : Nat} {l : List UInt8} (h : BRow w B l) (j : Nat) {X : Int} (c : UInt8) (hX : X = (c.toNat : Int)) : BRow (w.setCell ⟨B, j, none⟩ (.int .u8 X)) B (l.set j c) := by
  obtain ⟨C, N, h1, h2, h3, h4⟩ := h
  subst hX
  refine ⟨C.setIfInBounds j (.int .u8 c.toNat), N, ?_, by simp [h2], by rw [List.length_set]; exact h3, fun i hi => ?_⟩
  · simp [World.setCell, Array.getElem?_modify, h1]
  · rw [List.length_set] at hi
    rw [Array.getElem?_setIfInBounds, List.getElem_set]
    by_cases e : j = i
    · subst e; simp; omega
    · rw [if_neg e, if_neg e, h4 i hi]
theorem conv_in (s : ByteArray) (w : World) : ∃ cap w0, (convert 9 29 (.string s)).run Try.prog w = .ok (.slice (some ⟨w.heap.size, 0, none⟩) s.size cap) w0 ∧ BRow w0 w.heap.size (bs s) ∧ Below w.heap.size w w0 := by
  refine ⟨_, _, run_bytes_of_string w 9 29 5 s Try.underlying9 Try.underlying29 Try.underlying5, ⟨bytesRow s (grownCap w s.size 0 5), _, ?_, rfl, ?_, ?_⟩, ((Below.refl _ w).drew).alloc (Nat.le_refl _) _⟩
  · exact heap_alloc_new w.drew _
  · rw [bs_len]; simp [bytesRow]
  · intro j hj
    rw [bs_len] at hj
    unfold bytesRow
    rw [Array.getElem?_append_left (by simpa using hj), Array.getElem?_map, Array.getElem?_eq_getElem (by simpa using hj)]
    rfl
theorem conv_out {w : World} {B cap n : Nat} {l : List UInt8} (h : BRow w B l) (hn : n = l.length) : (convert 29 9 (.slice (some ⟨B, 0, none⟩) n cap)).run Try.prog w = .ok (.string ⟨l.toArray⟩) w := by
  subst hn
  refine run_convert_bytes_back w 29 9 5 ⟨B, 0, none⟩ cap l Try.underlying29 Try.underlying5 Try.underlying9 (fun j hj => ?_)
  have e : (⟨B, 0, none⟩ : Addr).add j = ⟨B, j, none⟩ := by
    by_cases h0 : j = 0
    · subst h0; rfl
    · simp [Addr.add, h0]
  rw [e]
  exact h.cell j hj
theorem ret_s {a b : ByteArray} (h : a = b) : Ending.returned (.string a) = .returned (.string b) := by rw [h]

set_option maxRecDepth 100000 in
set_option maxHeartbeats 1000000 in
theorem small_any (s : ByteArray) (w : World) (hs : s.size ≤ 1000000000) :
    Calls Try.prog 21 #[.string s] w fun e w' => e = .returned (.string (lowS s)) ∧ Below w.heap.size w w' := by
  obtain ⟨cap, w0, hconv, hrow, hbel⟩ := conv_in s w
  have H0 := hid_of hrow
  have HB0 := hid_of hbel
  clear hrow hbel
  go_enter Try.func21, Try.ntmps21
  go_wp2
  clear hconv
  go_loopg [10] s.size (fun g s10 wx => ∃ k : Nat, k ≤ s.size ∧ s.size ≤ k + g ∧ s10 = .int .i64 k ∧ Hid (BRow wx w.heap.size (part s k)) ∧ Hid (Below w.heap.size w wx))
  case atStart => exact ⟨0, by omega, by omega, rfl, by show BRow _ _ _; rw [part_zero]; exact H0.out, HB0⟩
  case round =>
    clear H0 HB0
    obtain ⟨k, hk, hg, rfl, HR, HB⟩ := hrel
    by_cases hlt : k < s.size
    · obtain ⟨g', rfl⟩ : ∃ g', gk = g' + 1 := ⟨gk - 1, by omega⟩
      have hl : k < (part s k).length := by rw [part_len]; exact hlt
      have hc := HR.out.cell k hl
      have hf := HR.out.frozen k hl
      rw [part_at s k hlt hl] at hc
      by_cases h1 : 65 ≤ s[k].toNat
      · have t1 : decide ((65 : Int) ≤ (s[k].toNat : Int)) = true := by simp; omega
        by_cases h2 : s[k].toNat ≤ 90
        · have t2 : decide ((s[k].toNat : Int) ≤ 90) = true := by simp; omega
          have HL := hid_of (low_yes h1 h2)
          have HN := hid_of (part_next s k hlt)
          go_wp2
          go_roundg g'
          case measure => omega
          case rel => exact ⟨k + 1, hlt, by omega, rfl, by show BRow _ _ _; rw [← HN.out]; exact HR.out.put k (low s[k]) (by have := HL.out; omega), HB.out.setCell (Nat.le_refl _) _⟩
        · have t2 : decide ((s[k].toNat : Int) ≤ 90) = false := by simp; omega
          have HN := hid_of (part_same s k hlt (low_no (by omega)))
          go_wp2
          go_roundg g'
          case measure => omega
          case rel => exact ⟨k + 1, hlt, by omega, rfl, by show BRow _ _ _; rw [← HN.out]; exact HR.out, HB⟩
      · have t1 : decide ((65 : Int) ≤ (s[k].toNat : Int)) = false := by simp; omega
        have HN := hid_of (part_same s k hlt (low_no (by omega)))
        go_wp2
        go_roundg g'
        case measure => omega
        case rel => exact ⟨k + 1, hlt, by omega, rfl, by show BRow _ _ _; rw [← HN.out]; exact HR.out, HB⟩
    · have hcv := conv_out (cap := cap) HR.out (part_len s k).symm
      have HP := hid_of (part_all s k (by omega))
      go_wp2
      go_ret
      exact ⟨ret_s (by rw [HP.out]; rfl), HB.out⟩

set_option maxRecDepth 100000 in
set_option maxHeartbeats 1000000 in
theorem lower_any (s : ByteArray) (w : World) (hs : s.size ≤ 1000000000) :
    Calls Try.prog 22 #[.string s] w fun e w' => e = .returned (.string (lowS s)) ∧ Below w.heap.size w w' := by
  obtain ⟨cap, w0, hconv, hrow, hbel⟩ := conv_in s w
  have H0 := hid_of hrow
  have HB0 := hid_of hbel
  clear hrow hbel
  go_enter Try.func22, Try.ntmps22
  go_wp2
  clear hconv
  go_loopg [4] s.size (fun g s4 wx => ∃ k : Nat, k ≤ s.size ∧ s.size ≤ k + g ∧ s4 = .int .i64 k ∧ Hid (BRow wx w.heap.size (part s k)) ∧ Hid (Below w.heap.size w wx))
  case atStart => exact ⟨0, by omega, by omega, rfl, by show BRow _ _ _; rw [part_zero]; exact H0.out, HB0⟩
  case round =>
    clear H0 HB0
    obtain ⟨k, hk, hg, rfl, HR, HB⟩ := hrel
    by_cases hlt : k < s.size
    · obtain ⟨g', rfl⟩ : ∃ g', gk = g' + 1 := ⟨gk - 1, by omega⟩
      have hl : k < (part s k).length := by rw [part_len]; exact hlt
      have hc := HR.out.cell k hl
      have hf := HR.out.frozen k hl
      rw [part_at s k hlt hl] at hc
      by_cases h1 : 65 ≤ s[k].toNat
      · have t1 : decide ((65 : Int) ≤ (s[k].toNat : Int)) = true := by simp; omega
        by_cases h2 : s[k].toNat ≤ 90
        · have t2 : decide ((s[k].toNat : Int) ≤ 90) = true := by simp; omega
          have HL := hid_of (low_yes h1 h2)
          have HN := hid_of (part_next s k hlt)
          go_wp2
          go_roundg g'
          case measure => omega
          case rel => exact ⟨k + 1, hlt, by omega, rfl, by show BRow _ _ _; rw [← HN.out]; exact HR.out.put k (low s[k]) (by have := HL.out; omega), HB.out.setCell (Nat.le_refl _) _⟩
        · have t2 : decide ((s[k].toNat : Int) ≤ 90) = false := by simp; omega
          have HN := hid_of (part_same s k hlt (low_no (by omega)))
          go_wp2
          go_roundg g'
          case measure => omega
          case rel => exact ⟨k + 1, hlt, by omega, rfl, by show BRow _ _ _; rw [← HN.out]; exact HR.out, HB⟩
      · have t1 : decide ((65 : Int) ≤ (s[k].toNat : Int)) = false := by simp; omega
        have HN := hid_of (part_same s k hlt (low_no (by omega)))
        go_wp2
        go_roundg g'
        case measure => omega
        case rel => exact ⟨k + 1, hlt, by omega, rfl, by show BRow _ _ _; rw [← HN.out]; exact HR.out, HB⟩
    · have hcv := conv_out (cap := cap) HR.out (part_len s k).symm
      have HP := hid_of (part_all s k (by omega))
      go_wp2
      go_ret
      exact ⟨ret_s (by rw [HP.out]; rfl), HB.out⟩
end Go.Proofs.Ytaglcpjjekaohaa.Fold
