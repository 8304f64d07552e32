/- Splice and SetBit of the code. -/
import Derived.Test.YtdkdjgpeeglbhaaDoorMem
import Derived.Deep.RegionWith
namespace Go.Proofs.YtdkdjgpeeglbhaaDoor.Splice
open Go.RowKit
open Go.Proofs.YtdkdjgpeeglbhaaDoor.BlobMath
open Go.Proofs.YtdkdjgpeeglbhaaDoor.Span
open Go.Proofs.YtdkdjgpeeglbhaaDoor.Bits
open Go.Proofs.YtdkdjgpeeglbhaaDoor.Reads
open Go.Proofs.YtdkdjgpeeglbhaaDoor.Mem
set_option linter.unusedVariables false
set_option linter.unusedSimpArgs false

theorem ret_si {a b : ByteArray} {c : Int} (h : a = b) : Ending.returned (.tuple #[.string a, .int .i64 c]) = .returned (.tuple #[.string b, .int .i64 c]) := by rw [h]
theorem not_nil {t : ByteArray} (h : 0 < t.size) : t.toList.isEmpty = false := by
  rw [Lib.toList_data]
  cases hl : t.data.toList with
  | nil => have : t.data.toList.length = t.size := by simp
           rw [hl] at this; simp at this; omega
  | cons c r => rfl
theorem splice_neg (s t : ByteArray) (a : Int) (w : World) (h : a < 0) :
    Calls Tryd.prog 12 #[.string s, .int .i64 a, .string t] w fun e w' => e = .returned (.tuple #[.string ByteArray.empty, .int .i64 1]) ∧ w' = w := by
  go_enter Tryd.func12, Tryd.ntmps12
  go_wp2
  go_ret2
  exact ⟨rfl, rfl⟩
theorem splice_nil (s : ByteArray) (a : Int) (w : World) (hs : s.size ≤ 140737488351232) (h : 0 ≤ a) :
    Calls Tryd.prog 12 #[.string s, .int .i64 a, .string ByteArray.empty] w fun e w' => e = .returned (.tuple #[.string s, .int .i64 0]) ∧ Below w.heap.size w w' := by
  have H1 := hid_of (fun w => clone_call s (by omega) w)
  go_enter Tryd.func12, Tryd.ntmps12
  go_wp2_with fail
  refine (H1.out _).mono ?_
  rintro e w1 ⟨rfl, b1⟩
  go_wp2
  go_ret2
  exact ⟨rfl, b1⟩
set_option maxRecDepth 100000 in
theorem splice_long (s t : ByteArray) (a : Int) (w : World) (ht : t.size ≤ 140737488351232) (ne : t.toList.isEmpty = false) (h : 0 ≤ a) (hl : 1048576 - (t.size : Int) < a) :
    Calls Tryd.prog 12 #[.string s, .int .i64 a, .string t] w fun e w' => e = .returned (.tuple #[.string ByteArray.empty, .int .i64 81]) ∧ w' = w := by
  go_enter Tryd.func12, Tryd.ntmps12
  go_wp2
  go_ret2
  exact ⟨rfl, rfl⟩
theorem from_run (g N a : Nat) (x : Int) (hx : x = a) (h : a < N) (w : World) : (Instr.slice 54 (.slice (some ⟨g, 0, none⟩) N N) (some (.int .i64 x)) none none).run Tryd.prog w = .ok (.slice (some ⟨g, a, none⟩) (N - a) (N - a)) w := by
  subst hx
  have h1 : ¬ N = a := by omega
  have h2 : (a : Int) ≤ N := by omega
  simp [Instr.slice, run_underlying Tryd.underlying54, Instr.sliceBounds, run_sliceBound, size5, Addr.add, h1, h2]
  omega
set_option maxHeartbeats 400000 in
set_option maxRecDepth 100000 in
theorem splice_ok (s t : ByteArray) (a : Nat) (w : World) (hs : s.size ≤ 140737488351232) (ne : t.toList.isEmpty = false) (h0 : 0 < t.size) (hl : a + t.size ≤ 1048576) :
    Calls Tryd.prog 12 #[.string s, .int .i64 (a : Int), .string t] w fun e w' => e = .returned (.tuple #[.string (mkB (over (txt s) a (txt t))), .int .i64 0]) ∧ Below w.heap.size w w' := by
  obtain ⟨n, HN⟩ : ∃ n, Hid (n = a + t.size) := ⟨_, hid_of rfl⟩
  have hn : n ≤ 1048576 := by rw [HN.out]; exact hl
  have hi : (a : Int) + (t.size : Int) = (n : Int) := by rw [HN.out]; simp
  have H1 := hid_of (fun w => laid_call s n w hs (by omega))
  have HT := hid_of (show (txt t).length = t.size by simp [txt])
  have HS := hid_of (show (txt s).length = s.size by simp [txt])
  obtain ⟨N, HM⟩ : ∃ N, Hid (N = max s.size n) := ⟨_, hid_of rfl⟩
  rw [← HM.out] at H1
  have hnN : n ≤ N := by rw [HM.out]; omega
  have haN : a < N := by have := HN.out; omega
  have hle : (a : Int) ≤ 1048576 - (t.size : Int) := by have := HN.out; omega
  have hsl := from_run w.heap.size N a a rfl haN
  go_enter Tryd.func12, Tryd.ntmps12
  go_wp2_with fail
  refine (H1.out _).mono ?_
  rintro e w1 ⟨rfl, r1, b1, l1⟩
  have htN : t.size ≤ N - a := by have := HN.out; omega
  have hlen : (pad (txt s) n).length = N := by rw [pad_len, HS.out, HM.out]
  have hcp : ∀ ty, (Builtin.copy_ #[54, 9] ty #[.slice (some ⟨w.heap.size, a, none⟩) (N - a) (N - a), .string t]).run Tryd.prog w1 = .ok (goInt t.size) (w1.setCells w.heap.size a (cellsB (txt t))) := fun ty =>
    run_copy_string w1 54 9 ty 5 w.heap.size a (N - a) (N - a) t Tryd.underlying54 size5 htN (fun j hj => by rw [r1.cell (a + j) (by rw [hlen]; omega)]; rfl) (fun j hj => r1.frozen (a + j) (by rw [hlen]; omega))
  have hm : a + (txt t).length ≤ (pad (txt s) n).length := by rw [hlen, HT.out]; omega
  have r2 := r1.lay a (txt t) hm
  have b2 := below_cells (Nat.le_refl _) (cellsB (txt t)) a w1 b1
  have hconv := r2.conv N N (by rw [lay_len hm, hlen])
  have HE := hid_of (show lay (pad (txt s) n) a (txt t) = over (txt s) a (txt t) by unfold lay over; rw [HT.out, ← HN.out])
  have B2 := hid_of b2
  clear r1 b1 l1 r2 b2 hm hlen htN hi
  go_wp2_with (simp only [hcp])
  go_ret2
  exact ⟨ret_si (by rw [HE.out]), B2.out⟩
theorem setbit_no (s : ByteArray) (a b : Int) (w : World) (h : ¬ inB a) :
    Calls Tryd.prog 16 #[.string s, .int .i64 a, .int .i64 b] w fun e w' => e = .returned (.tuple #[.string ByteArray.empty, .int .i64 0, .int .i64 80]) ∧ w' = w := by
  have H1 := hid_of (fun w => bit_no s a w h)
  go_enter Tryd.func16, Tryd.ntmps16
  go_wp2_with fail
  refine (H1.out _).mono ?_
  rintro e w1 ⟨rfl, rfl⟩
  go_wp2
  go_ret3
  exact ⟨rfl, rfl⟩
theorem setbit_bad (s : ByteArray) (a : Nat) (b : Int) (w : World) (hs : s.size ≤ 140737488351232) (ha : a < 8388608) (h0 : (b == 0) = false) (h1 : (b == 1) = false) :
    Calls Tryd.prog 16 #[.string s, .int .i64 (a : Int), .int .i64 b] w fun e w' => e = .returned (.tuple #[.string ByteArray.empty, .int .i64 0, .int .i64 80]) ∧ Below w.heap.size w w' := by
  have H1 := hid_of (fun w => bit_yes s a w hs ha)
  have H2 := hid_of (fun w => isbit_call b w)
  rw [h0, h1] at H2
  go_enter Tryd.func16, Tryd.ntmps16
  go_wp2_with fail
  refine (H1.out _).mono ?_
  rintro e w1 ⟨rfl, b1⟩
  go_wp2_with fail
  refine (H2.out _).mono ?_
  rintro e w2 ⟨rfl, rfl⟩
  go_wp2
  go_ret3
  exact ⟨rfl, b1⟩

/-! ### a bit set -/
def setN (c j v : Nat) : Nat := c ^^^ (((c / 2 ^ (7 - j) % 2) ^^^ v) * 2 ^ (7 - j))
def setS (l : List UInt8) (a v : Nat) : List UInt8 := (pad l (a / 8 + 1)).set (a / 8) (UInt8.ofNat (setN (at8 l (a / 8)) (a % 8) v))
theorem setN_lt {c j v : Nat} (hc : c < 256) (hj : j < 8) (hv : v < 2) : setN c j v < 256 := by
  have : ∀ c, c < 256 → ∀ j, j < 8 → ∀ v, v < 2 → setN c j v < 256 := by decide +kernel
  exact this c hc j hj v hv
theorem u8_shl (q m : Nat) (h : q * 2 ^ m < 256) : IntKind.u8.wrap ((q : Int) * 2 ^ m) = ((q * 2 ^ m : Nat) : Int) := by
  have : ((q : Int) * 2 ^ m) = ((q * 2 ^ m : Nat) : Int) := by simp
  rw [this]
  simp [IntKind.wrap, IntKind.signed, IntKind.bits]
  omega
theorem shl_lt {q m : Nat} (hq : q < 2) (hm : m < 8) : q * 2 ^ m < 256 := by
  have : ∀ q, q < 2 → ∀ m, m < 8 → q * 2 ^ m < 256 := by decide
  exact this q hq m hm
theorem set_eq {c j v : Nat} (hc : c < 256) (hj : j < 8) (hv : v < 2) : bits .xor .u8 (c : Int) (IntKind.u8.wrap (((bitB c j ^^^ v : Nat) : Int) * 2 ^ (7 - j))) = ((setN c j v : Nat) : Int) := by
  have h := shl_lt (q := bitB c j ^^^ v) (m := 7 - j) (Nat.xor_lt_two_pow (n := 1) (bitB_lt _ _) hv) (by omega)
  rw [u8_shl _ _ h, u8_xor_nat _ _ hc h]
  rfl
theorem ret_sii {a b : ByteArray} {c d : Int} (h : a = b) : Ending.returned (.tuple #[.string a, .int .i64 c, .int .i64 d]) = .returned (.tuple #[.string b, .int .i64 c, .int .i64 d]) := by rw [h]
theorem at_run (g N k : Nat) (x : Int) (hx : x = k) (h : k < N) (w : World) : (Instr.indexAt 54 (.slice (some ⟨g, 0, none⟩) N N) (.int .i64 x)).run Tryd.prog w = .ok (.pointer (some ⟨g, k, none⟩)) w := by
  subst hx
  have h1 : (k : Int) < N := by omega
  simp [Instr.indexAt, run_underlying Tryd.underlying54, size5, Addr.add, asIntOf, go_sem, h, h1]
  omega
theorem xor_bit {b v : Nat} (hb : b < 2) (hv : v < 2) : bits .xor .i64 (b : Int) (v : Int) = ((b ^^^ v : Nat) : Int) := by
  rcases (show b = 0 ∨ b = 1 by omega) with rfl | rfl <;> rcases (show v = 0 ∨ v = 1 by omega) with rfl | rfl <;> decide
theorem setbit_yes (s : ByteArray) (a v : Nat) (w : World) (hs : s.size ≤ 140737488351232) (ha : a < 8388608) (hv : v < 2) :
    Calls Tryd.prog 16 #[.string s, .int .i64 (a : Int), .int .i64 (v : Int)] w fun e w' => e = .returned (.tuple #[.string (mkB (setS (txt s) a v)), .int .i64 (bitAt (txt s) a : Nat), .int .i64 0]) ∧ Below w.heap.size w w' := by
  have H1 := hid_of (fun w => bit_yes s a w hs ha)
  have H2 := hid_of (fun w => isbit_call (v : Int) w)
  have H3 := hid_of (fun w => laid_call s (a / 8 + 1) w hs (by omega))
  rw [show ((a / 8 + 1 : Nat) : Int) = (a : Int) / 8 + 1 by omega] at H3
  have H4 := hid_of (fun w => lower_call a w (by omega))
  obtain ⟨m, HM⟩ : ∃ m, Hid (m = 7 - a % 8) := ⟨_, hid_of rfl⟩
  rw [← HM.out] at H4
  have hm : m ≤ 7 := by rw [HM.out]; omega
  obtain ⟨N, HN⟩ : ∃ N, Hid (N = max s.size (a / 8 + 1)) := ⟨_, hid_of rfl⟩
  rw [← HN.out] at H3
  have hkN : a / 8 < N := by rw [HN.out]; omega
  have hq8 : IntKind.i64.wrap ((a : Int) / 8) = (a : Int) / 8 := IntWalk.i64_in _ (by omega)
  have f1 : (0 : Int) ≤ (a : Int) / 8 := by omega
  have ht8 : ((a : Int) / 8).toNat = a / 8 := by omega
  have f2 : (a : Int) / 8 < (N : Int) := by omega
  obtain ⟨b, HB⟩ : ∃ b, Hid (b = bitAt s.data.toList a) := ⟨_, hid_of rfl⟩
  rw [← HB.out] at H1
  have hb : b < 2 := by rw [HB.out]; exact bitAt_lt _ _
  rw [show bitAt (txt s) a = b from HB.out.symm]
  have hE2 : ((v : Int) == 0 || (v : Int) == 1) = true := by rcases (show v = 0 ∨ v = 1 by omega) with rfl | rfl <;> rfl
  rw [hE2] at H2
  clear hE2
  have HS := hid_of (show (txt s).length = s.size by simp [txt])
  have hx : bits .xor .i64 (b : Int) (v : Int) = ((b ^^^ v : Nat) : Int) := xor_bit hb hv
  obtain ⟨q, HQ⟩ : ∃ q, Hid (q = b ^^^ v) := ⟨_, hid_of rfl⟩
  rw [← HQ.out] at hx
  have hq : q < 2 := by rw [HQ.out]; exact Nat.xor_lt_two_pow (n := 1) hb hv
  have hw : IntKind.u8.wrap (q : Int) = (q : Int) := by simp [IntKind.wrap, IntKind.signed, IntKind.bits]; omega
  go_enter Tryd.func16, Tryd.ntmps16
  go_wp2_with fail
  refine (H1.out _).mono ?_
  rintro e w1 ⟨rfl, b1⟩
  go_wp2_with fail
  refine (H2.out _).mono ?_
  rintro e w2 ⟨rfl, rfl⟩
  go_wp2_with fail
  refine (H3.out _).mono ?_
  rintro e w3 ⟨rfl, r3, b3, l3⟩
  have hlen : (pad (txt s) (a / 8 + 1)).length = N := by rw [pad_len, HS.out, HN.out]
  have hc := r3.cell (a / 8) (by omega)
  rw [pad_at] at hc
  have hz := r3.frozen (a / 8) (by omega)
  obtain ⟨c, HC⟩ : ∃ c, Hid (c = at8 (txt s) (a / 8)) := ⟨_, hid_of rfl⟩
  rw [← HC.out] at hc
  have hc8 : c < 256 := by rw [HC.out]; exact at8_lt _ _
  obtain ⟨X, HX⟩ : ∃ X, Hid (X = setN c (a % 8) v) := ⟨_, hid_of rfl⟩
  have hX : X < 256 := by rw [HX.out]; exact setN_lt hc8 (by omega) hv
  have HXE := hid_of (show bits .xor .u8 (c : Int) (IntKind.u8.wrap ((q : Int) * 2 ^ m)) = (X : Int) by
    rw [HX.out, HM.out, HQ.out]
    have hbq : b = bitB c (a % 8) := by rw [HB.out, HC.out]; rfl
    rw [hbq]
    exact set_eq hc8 (by omega) hv)
  have r4 := r3.set (a / 8) (by omega) X hX
  have B4 := hid_of ((bel b1 b3 (Nat.le_refl _)).setCell (p := ⟨w2.heap.size, a / 8, none⟩) b1.size (.int .u8 (X : Int)))
  have hcv := r4.conv N N (by rw [List.length_set, hlen])
  have HCV := hid_of (show (convert 54 9 (.slice (some ⟨w2.heap.size, 0, none⟩) N N)).run Tryd.prog (w3.setCell ⟨w2.heap.size, a / 8, none⟩ (.int .u8 (X : Int))).drew = _ from (r4.drewN 1).conv N N (by rw [List.length_set, hlen]))
  have HE := hid_of (show (pad (txt s) (a / 8 + 1)).set (a / 8) (UInt8.ofNat X) = setS (txt s) a v by rw [HX.out, HC.out]; rfl)
  clear r3 b3 b1 hlen r4 hcv
  go_wp2_with fail
  go_region_with (go_at_call 31; refine (H4.out _).mono ?_; rintro e wy ⟨rfl, rfl⟩)
  all_goals
    rw [HXE.out]
    have hcv := HCV.out
    go_wp2
    go_ret3
    exact ⟨ret_sii (by rw [HE.out]), B4.out.drew⟩
end Go.Proofs.YtdkdjgpeeglbhaaDoor.Splice
