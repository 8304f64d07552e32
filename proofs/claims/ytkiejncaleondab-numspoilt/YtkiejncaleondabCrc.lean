/- The contracts of the document's own More and Crc, and of num's inner shift. -/
import Derived.Test.YtkiejncaleondabRows
import Derived.Test.YtkiejncaleondabCrcMath
import Derived.WalkKit
import Derived.Below
namespace Go.Proofs.Ytkiejncaleondab.Crc
open Go.RowKit
open Go.Proofs.Ytkiejncaleondab.CrcMath
set_option linter.unusedVariables false

theorem hid_of {p : Prop} (h : p) : Hid p := h
theorem ret_u {a b : Int} (h : a = b) : Ending.returned (.int .u32 a) = .returned (.int .u32 b) := by rw [h]
theorem val_u {a b : Int} (h : a = b) : Value.int .u32 a = .int .u32 b := by rw [h]

/-! ### the walk's forms -/
theorem and_one {r : Nat} (hr : r < 4294967296) : bits .and .u32 (r : Int) 1 = ((r % 2 : Nat) : Int) := by
  have := u32_and_nat r 1 hr (by omega)
  rw [Nat.and_one_is_mod] at this
  exact this
theorem odd_test {r : Nat} (hr : r < 4294967296) (h : r % 2 = 1) : (bits .and .u32 (r : Int) 1 == 1) = true := by rw [and_one hr, h]; rfl
theorem even_test {r : Nat} (hr : r < 4294967296) (h : r % 2 = 0) : (bits .and .u32 (r : Int) 1 == 1) = false := by rw [and_one hr, h]; rfl
theorem sh_odd {r : Nat} (hr : r < 4294967296) (h : r % 2 = 1) : bits .xor .u32 ((r : Int) / 2) 3988292384 = ((sh r : Nat) : Int) := by
  have e : ((r : Int) / 2) = ((r / 2 : Nat) : Int) := by omega
  have := u32_xor_nat (r / 2) 3988292384 (by omega) (by omega)
  rw [e, sh, if_pos h]; exact this
theorem sh_ev {r : Nat} (h : r % 2 = 0) : ((r : Int) / 2) = ((sh r : Nat) : Int) := by
  rw [sh, if_neg (by omega)]; omega
theorem comp {r : Nat} (hr : r < 4294967296) : bits .xor .u32 IntKind.u32.max (r : Int) = ((4294967295 ^^^ r : Nat) : Int) :=
  u32_xor_nat 4294967295 r (by omega) hr
theorem xor_byte {y c : Nat} (hy : y < 4294967296) (hc : c < 256) : bits .xor .u32 (y : Int) ((c : Int) % 4294967296) = ((y ^^^ c : Nat) : Int) := by
  rw [show ((c : Int) % 4294967296) = (c : Int) from by omega]
  exact u32_xor_nat y c hy (by omega)

set_option maxHeartbeats 400000 in
theorem shift_any (r : Nat) (w : World) (hr : r < 4294967296) :
    Calls Try.prog 14 #[.int .u32 r] w fun e w' => e = .returned (.int .u32 (sh r : Nat)) ∧ w' = w := by
  by_cases h : r % 2 = 1
  · have ht := odd_test hr h
    have HS := hid_of (sh_odd hr h)
    clear h
    go_enter Try.func14, Try.ntmps14
    go_wp2
    go_ret
    exact ⟨ret_u HS.out, rfl⟩
  · have ht := even_test hr (show r % 2 = 0 from by omega)
    have HS := hid_of (sh_ev (show r % 2 = 0 from by omega))
    clear h
    go_enter Try.func14, Try.ntmps14
    go_wp2
    go_ret
    exact ⟨ret_u HS.out, rfl⟩

theorem take_snoc (s : ByteArray) (k : Nat) (h : k < s.size) : s.data.toList.take (k + 1) = s.data.toList.take k ++ [s[k]] := by
  rw [List.take_succ_eq_append_getElem (by simpa using h)]; rfl
theorem take_all (s : ByteArray) (k : Nat) (h : s.size ≤ k) : s.data.toList.take k = s.data.toList :=
  List.take_of_length_le (by rw [show s.data.toList.length = s.size from Array.length_toList]; exact h)
theorem fold_next {r y : Nat} {s : ByteArray} {k : Nat} (h : k < s.size) (HY : Hid (y = foldN (4294967295 ^^^ r) (s.data.toList.take k))) :
    shN 8 (y ^^^ s[k].toNat) = foldN (4294967295 ^^^ r) (s.data.toList.take (k + 1)) := by
  rw [take_snoc s k h, foldN_snoc, ← HY.out]; rfl

theorem sh_next {z m x : Nat} (HZ : Hid (z = shN m x)) : Hid (sh z = shN (m + 1) x) := by
  show sh z = sh (shN m x)
  rw [← HZ.out]

set_option maxHeartbeats 1000000 in
theorem rmore_any (r : Nat) (s : ByteArray) (w : World) (hr : r < 4294967296) (hs : s.size ≤ maxLen) :
    Calls Try.prog 7 #[.int .u32 r, .string s] w fun e w' => e = .returned (.int .u32 (crcN r s.data.toList : Nat)) ∧ w' = w := by
  unfold maxLen at hs
  have HC := hid_of (comp hr)
  go_enter Try.func7, Try.ntmps7
  go_wp2
  go_loop [5, 6] (fun x i => ∃ k y : Nat, k ≤ s.size ∧ y < 4294967296 ∧ i = .int .i64 k ∧ x = .int .u32 y ∧ Hid (y = foldN (4294967295 ^^^ r) (s.data.toList.take k))) (fun _ i => s.size - (intOf i).toNat)
  case atStart => exact ⟨0, 4294967295 ^^^ r, Nat.zero_le _, xor_lt (by omega) hr, rfl, val_u HC.out, hid_of rfl⟩
  case round =>
    obtain ⟨k, y, hk, hy, rfl, rfl, HY⟩ := hrel
    by_cases hlt : k < s.size
    · have HX := hid_of (xor_byte hy (s[k].toNat_lt))
      have HL := hid_of (xor_lt hy (show s[k].toNat < 4294967296 from by have := s[k].toNat_lt; omega))
      go_wp2
      go_loop [5, 7] (fun x j => ∃ m z : Nat, m ≤ 8 ∧ z < 4294967296 ∧ j = .int .i64 m ∧ x = .int .u32 z ∧ Hid (z = shN m (y ^^^ s[k].toNat))) (fun _ j => 8 - (intOf j).toNat)
      case atStart => exact ⟨0, _, Nat.zero_le _, HL.out, rfl, val_u HX.out, hid_of rfl⟩
      case round =>
        obtain ⟨m, z, hm, hz, rfl, rfl, HZ⟩ := hrel
        by_cases hl8 : m < 8
        · by_cases ho : z % 2 = 1
          · have ht : ((z : Int) % 2 == 1) = true := by rw [beq_iff_eq]; omega
            have HS := hid_of (sh_odd hz ho)
            clear ho
            go_wp2
            exact ⟨⟨m + 1, sh z, hl8, sh_lt hz, by go_num, val_u HS.out, sh_next HZ⟩, by simp [intOf]; omega⟩
          · have ht : ((z : Int) % 2 == 1) = false := by rw [beq_eq_false_iff_ne]; omega
            have HS := hid_of (sh_ev (show z % 2 = 0 from by omega))
            clear ho
            go_wp2
            exact ⟨⟨m + 1, sh z, hl8, sh_lt hz, by go_num, val_u HS.out, sh_next HZ⟩, by simp [intOf]; omega⟩
        · have hm8 : m = 8 := by omega
          subst hm8
          have HN := fold_next hlt HY
          rw [← HZ.out] at HN
          have HN' := hid_of HN
          clear HN
          go_wp2
          exact ⟨⟨k + 1, z, hlt, hz, by go_num, rfl, HN'⟩, by simp [intOf]; omega⟩
    · have HK := hid_of (take_all s k (by omega))
      have HC2 := hid_of (comp hy)
      go_wp2
      go_ret
      exact ⟨ret_u (by rw [HC2.out, HY.out, HK.out, crcN_eq]), rfl⟩

set_option maxHeartbeats 400000 in
theorem rcrc_any (s : ByteArray) (w : World) (hs : s.size ≤ maxLen) :
    Calls Try.prog 12 #[.string s] w fun e w' => e = .returned (.int .u32 (crcN 0 s.data.toList : Nat)) ∧ w' = w := by
  have HR : ∀ w, Calls Try.prog 7 #[.int .u32 0, .string s] w fun e w' => e = .returned (.int .u32 (crcN 0 s.data.toList : Nat)) ∧ w' = w := fun w => rmore_any 0 s w (by omega) hs
  have HR' := hid_of HR
  clear HR
  go_enter Try.func12, Try.ntmps12
  go_wp2_with fail
  refine (HR'.out _).mono ?_
  rintro e w' ⟨rfl, rfl⟩
  go_wp2
  go_ret
  exact ⟨rfl, rfl⟩

/-! ### the table -/
def tabL (k : Nat) : List Value := (List.range 256).map fun j => Value.int .u32 (if j < k then (shN 8 j : Int) else 0)
def tabK (k : Nat) : Array Value := (tabL k).toArray
theorem tabK_size (k : Nat) : (tabK k).size = 256 := by simp [tabK, tabL]
theorem tabK_get (k j : Nat) (h : j < 256) : (tabK k)[j]? = some (Value.int .u32 (if j < k then (shN 8 j : Int) else 0)) := by
  simp [tabK, tabL, h]
theorem tabK_set (k : Nat) (h : k < 256) : (tabK k).setIfInBounds k (Value.int .u32 (shN 8 k : Int)) = tabK (k + 1) := by
  apply Array.ext_getElem?
  intro j
  by_cases hj : j < 256
  · rw [tabK_get (k + 1) j hj, Array.getElem?_setIfInBounds]
    by_cases e : k = j
    · subst e; simp [tabK_size, hj]
    · rw [if_neg e, tabK_get k j hj]
      by_cases l : j < k
      · rw [if_pos l, if_pos (by omega)]
      · rw [if_neg l, if_neg (by omega)]
  · rw [Array.getElem?_eq_none (by rw [Array.size_setIfInBounds, tabK_size]; omega), Array.getElem?_eq_none (by rw [tabK_size]; omega)]
theorem tabK_one (k : Nat) : (tabK k).all (·.oneCell') = true := by
  rw [Array.all_eq_true_iff_forall_mem]
  intro x hx
  simp only [tabK, tabL, List.mem_toArray, List.mem_map] at hx
  obtain ⟨j, _, rfl⟩ := hx
  rfl
theorem zero32 : ∀ w : World, Sem.run Try.prog (zeroValue 32) w = .ok (.agg (tabK 0)) w := by
  intro w
  have h : (Try.prog.info? 32).map (·.zero) = some (some (.agg (tabK 0))) := by kernel_rfl
  cases hq : Try.prog.info? 32 with
  | none => rw [hq] at h; simp at h
  | some i =>
    rw [hq] at h
    have hz : i.zero = some (.agg (tabK 0)) := by simpa using h
    simp [zeroValue, typeInfo, hq, hz]
theorem size32 (k : Nat) : (Try.prog.info? 32).map (·.size) = some (tabK k).size := by
  rw [tabK_size]; kernel_rfl

theorem tab_next {w wr : World} {k z : Nat} (hk : k < 256) (HZ : Hid (z = shN 8 k)) (h0 : wr.heap[w.heap.size]? = some (.cells (tabK 0) 32 (0, 0))) (h1 : wr.heap[w.heap.size + 1]? = some (.cells (tabK k) 32 (0, 0))) (hb : Below w.heap.size w wr) :
    (wr.setCell ⟨w.heap.size + 1, k, none⟩ (.int .u32 z)).heap[w.heap.size]? = some (.cells (tabK 0) 32 (0, 0)) ∧
    (wr.setCell ⟨w.heap.size + 1, k, none⟩ (.int .u32 z)).heap[w.heap.size + 1]? = some (.cells (tabK (k + 1)) 32 (0, 0)) ∧
    Below w.heap.size w (wr.setCell ⟨w.heap.size + 1, k, none⟩ (.int .u32 z)) := by
  refine ⟨?_, ?_, hb.setCell (show w.heap.size ≤ w.heap.size + 1 by omega) _⟩
  · rw [heap_setCell_other _ _ _ _ (show w.heap.size ≠ w.heap.size + 1 by omega)]; exact h0
  · rw [heap_setCell_same _ _ _ _ _ _ h1, HZ.out, tabK_set k hk]
theorem below_row {B : Nat} {a w : World} (h : Below B a w) {g : Nat} (hg : B ≤ g) (cs : Array Value) : Below B a (w.setRow g cs) :=
  h.trans ⟨rfl, rfl, rfl, by simp, fun k hk => setRow_other w g k cs (by omega)⟩
theorem res13 : Try.f13.results = #[.cell 0 32] := by kernel_rfl

set_option maxRecDepth 100000 in
set_option maxHeartbeats 1000000 in
theorem steps_any (w : World) :
    Calls Try.prog 13 #[] w fun e w' => e = .returned (.agg (tabK 256)) ∧ Below w.heap.size w w' := by
  have hz := zero32
  go_enter Try.func13, Try.ntmps13
  go_wp2
  go_loopw [4] (fun i wr => ∃ k : Nat, k ≤ 256 ∧ i = .int .i64 k ∧ wr.heap[w.heap.size]? = some (.cells (tabK 0) 32 (0, 0)) ∧ wr.heap[w.heap.size + 1]? = some (.cells (tabK k) 32 (0, 0)) ∧ Below w.heap.size w wr) (fun i _ => 256 - (intOf i).toNat)
  case atStart => exact ⟨0, Nat.zero_le _, rfl, heap_alloc2_old _ _ _, heap_alloc2_new _ _ _, ((Below.refl _ _).alloc (Nat.le_refl _) _).alloc (by simp) _⟩
  case round =>
    obtain ⟨k, hk, rfl, h0, h1, hb⟩ := hrel
    clear hz
    by_cases hlt : k < 256
    · have hc : wr.cell? ⟨w.heap.size + 1, k, none⟩ = some (.int .u32 0) := by
        rw [cell_of_row wr (w.heap.size + 1) k _ _ _ h1, tabK_get k k hlt, if_neg (Nat.lt_irrefl k)]
      have hf := frozen_of_row wr (w.heap.size + 1) k _ _ h1
      have H0 := hid_of h0
      have H1 := hid_of h1
      have ht : decide ((k : Int) < 256) = true := by simp; omega
      clear h0 h1
      go_wp2
      go_loop [3, 9] (fun x j => ∃ m z : Nat, m ≤ 8 ∧ z < 4294967296 ∧ j = .int .i64 m ∧ x = .int .u32 z ∧ Hid (z = shN m k)) (fun _ j => 8 - (intOf j).toNat)
      case atStart => exact ⟨0, k, Nat.zero_le _, by omega, rfl, val_u (by omega), hid_of rfl⟩
      case round =>
        obtain ⟨m, z, hm, hz, rfl, rfl, HZ⟩ := hrel
        by_cases hl8 : m < 8
        · go_wp2_with (go_at_call 14; refine (shift_any z _ hz).mono ?_; rintro e w' ⟨rfl, rfl⟩)
          go_round
          case rel => exact ⟨m + 1, sh z, hl8, sh_lt hz, by go_num, rfl, sh_next HZ⟩
          case measure => simp [intOf]; omega
        · have hm8 : m = 8 := by omega
          subst hm8
          have R := tab_next hlt HZ H0.out H1.out hb
          have R' := hid_of R
          clear R
          go_wp2
          exact ⟨⟨k + 1, hlt, by go_num, R'.out.1, R'.out.2.1, R'.out.2.2⟩, by simp [intOf]; omega⟩
    · have hk6 : k = 256 := by omega
      subst hk6
      go_wp2_with (first | refine wpList_load_row rfl 32 _ rfl (w.heap.size + 1) rfl 32 (tabK 256) (0, 0) _ h1 Try.underlying32 rfl (size32 256) ?_ | refine wpList_store_row rfl 32 _ _ rfl w.heap.size (tabK 256) rfl rfl 32 (tabK 0) h0 (size32 256) (by rw [tabK_size, tabK_size]) (tabK_one 256) ?_)
      exact bodyPost_ret (v := .agg (tabK 256)) (results_cell_row res13 _ _ w.heap.size 32 (tabK 256) (0, 0) _ rfl (setRow_heap _ _ _ _ _ _ h0) Try.underlying32 rfl (size32 256)) rfl ⟨rfl, below_row hb (Nat.le_refl _) _⟩
end Go.Proofs.Ytkiejncaleondab.Crc
