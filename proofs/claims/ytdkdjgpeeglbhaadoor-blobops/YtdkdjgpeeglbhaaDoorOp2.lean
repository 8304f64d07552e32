/- Op of the code: lengths; what it refuses. -/
import Derived.Test.YtdkdjgpeeglbhaaDoorOp
namespace Go.Proofs.YtdkdjgpeeglbhaaDoor.Opp
open Go.RowKit
open Go.Proofs.YtdkdjgpeeglbhaaDoor.BlobMath
open Go.Proofs.YtdkdjgpeeglbhaaDoor.Span
open Go.Proofs.YtdkdjgpeeglbhaaDoor.Bits
open Go.Proofs.YtdkdjgpeeglbhaaDoor.Reads
open Go.Proofs.YtdkdjgpeeglbhaaDoor.Mem
set_option linter.unusedVariables false
set_option linter.unusedSimpArgs false

/-- a list of texts lies from place o of block b on -/
structure SS (w : World) (b o : Nat) (L : List ByteArray) : Prop where
  lt : b < w.heap.size
  cell : ∀ i (h : i < L.length), w.cell? ⟨b, o + i, none⟩ = some (.string L[i])
theorem SS.keep {w w' : World} {b o : Nat} {L : List ByteArray} {B : Nat} (h : SS w b o L) (k : Below B w w') (hb : b < B) : SS w' b o L :=
  ⟨Nat.lt_of_lt_of_le h.lt k.size, fun i hi => (k.cell (p := ⟨b, o + i, none⟩) hb).trans (h.cell i hi)⟩
def Small (L : List ByteArray) : Prop := ∀ s ∈ L, s.size ≤ 140737488351232
theorem tx_in (L : List ByteArray) (i : Nat) (h : i < L.length) : tx L i = txt L[i] := by unfold tx; simp [List.getD, h]
theorem tx_len (L : List ByteArray) (i : Nat) (h : i < L.length) : (tx L i).length = L[i].size := by rw [tx_in L i h, txt_len]
theorem tx_bd {L : List ByteArray} (hL : Small L) (i : Nat) : (tx L i).length ≤ 140737488351232 := by
  by_cases h : i < L.length
  · rw [tx_len L i h]; exact hL _ (List.getElem_mem h)
  · unfold tx; simp [List.getD, h, txt]
theorem mx_bd {L : List ByteArray} (hL : Small L) : ∀ i, mx L i ≤ 140737488351232
  | 0 => by simp [mx]
  | i + 1 => by have := mx_bd hL i; have := tx_bd hL i; simp only [mx]; omega
theorem mn_bd {L : List ByteArray} (hL : Small L) (i : Nat) (h : 0 < i) : mn L i ≤ 140737488351232 := Nat.le_trans (mn_le L 0 i h) (tx_bd hL 0)
theorem size9 (w : World) : (Go.sizeOf 9).run Tryd.prog w = .ok 1 w := by kernel_rfl
/-- l[1:] -/
theorem tail_run (b o n cap : Nat) (hn : 0 < n) (hc : n ≤ cap) : ∃ o', (1 < n → o' = o + 1) ∧ ∀ w, (Instr.slice 45 (.slice (some ⟨b, o, none⟩) n cap) (some (.int .i64 1)) none none).run Tryd.prog w = .ok (.slice (some ⟨b, o', none⟩) (n - 1) (cap - 1)) w := by
  by_cases h1 : cap = 1
  · refine ⟨o, fun h => by omega, fun w => ?_⟩
    have h2 : n = 1 := by omega
    subst h1 h2
    simp [Instr.slice, run_underlying Tryd.underlying45, Instr.sliceBounds, run_sliceBound, size9]
  · refine ⟨o + 1, fun _ => rfl, fun w => ?_⟩
    have h2 : (1 : Int) ≤ n := by omega
    simp [Instr.slice, run_underlying Tryd.underlying45, Instr.sliceBounds, run_sliceBound, size9, Addr.add, h1, h2]
set_option maxHeartbeats 1000000 in
set_option maxRecDepth 100000 in
theorem lengths_call (b o cap : Nat) (L : List ByteArray) (w : World) (h : SS w b o L) (hL : Small L) (hn : 0 < L.length) (hc : L.length ≤ cap) (hcb : L.length ≤ 140737488351232) :
    Calls Tryd.prog 36 #[.slice (some ⟨b, o, none⟩) L.length cap] w fun e w' => e = .returned (.tuple #[.int .i64 (mn L L.length : Nat), .int .i64 (mx L L.length : Nat)]) ∧ ∃ m, w' = w.drewN m := by
  obtain ⟨o', ho, hsl⟩ := tail_run b o L.length cap hn hc
  obtain ⟨n, HN⟩ : ∃ n, Hid (n = L.length) := ⟨_, hid_of rfl⟩
  have HC := hid_of h
  have HO := hid_of ho
  have h0 := h.cell 0 hn
  rw [Nat.add_zero] at h0
  obtain ⟨s0, HS0⟩ : ∃ s0, Hid (s0 = L[0]) := ⟨_, hid_of rfl⟩
  rw [← HS0.out] at h0
  have h0s : s0.size ≤ 140737488351232 := by rw [HS0.out]; exact hL _ (List.getElem_mem hn)
  have HT0 := hid_of (show (tx L 0).length = s0.size by rw [tx_len L 0 hn, HS0.out])
  rw [← HN.out] at hsl hn hc hcb ⊢
  have e1 : (0 : Int) < (n : Int) := by omega
  have e2 : (1 : Int) ≤ (n : Int) := by omega
  clear h ho
  go_enter Tryd.func36, Tryd.ntmps36
  go_wp2_with fail
  go_quiet (fail)
  go_wp2_with fail
  go_loop [4, 5, 19] (fun x y i => ∃ k p q : Nat, k ≤ n - 1 ∧ i = .int .i64 (k : Int) ∧ x = .int .i64 (p : Int) ∧ y = .int .i64 (q : Int) ∧ Hid (p = mn L (k + 1) ∧ q = mx L (k + 1))) (fun _ _ i => n - (intOf i).toNat)
  case atStart => exact ⟨0, s0.size, s0.size, Nat.zero_le _, rfl, rfl, rfl, by show _ ∧ _; simp [mn, mx, HT0.out]⟩
  case round =>
    obtain ⟨k, p, q, hk, rfl, rfl, rfl, HI⟩ := hrel
    by_cases hlt : k < n - 1
    · have hkn : k + 1 < L.length := by have := HN.out; omega
      have hct := HC.out.cell (k + 1) hkn
      rw [show o + (k + 1) = o' + k by rw [HO.out (by omega)]; omega] at hct
      obtain ⟨s, HS⟩ : ∃ s, Hid (s = L[k + 1]) := ⟨_, hid_of rfl⟩
      rw [← HS.out] at hct
      have hss : s.size ≤ 140737488351232 := by rw [HS.out]; exact hL _ (List.getElem_mem hkn)
      have HTL := hid_of (show (tx L (k + 1)).length = s.size by rw [tx_len L _ hkn, HS.out])
      obtain ⟨p', HP⟩ : ∃ p', Hid (p' = min p s.size) := ⟨_, hid_of rfl⟩
      obtain ⟨q', HQ⟩ : ∃ q', Hid (q' = max q s.size) := ⟨_, hid_of rfl⟩
      have hp : min (p : Int) (s.size : Int) = (p' : Int) := by have := HP.out; omega
      have hq : max (q : Int) (s.size : Int) = (q' : Int) := by have := HQ.out; omega
      have HI2 := hid_of (show p' = mn L (k + 1 + 1) ∧ q' = mx L (k + 1 + 1) by
        rw [HP.out, HQ.out, HI.out.1, HI.out.2, ← HTL.out]
        exact ⟨by conv => rhs; rw [mn, if_neg (by omega)], rfl⟩)
      go_wp2
      exact ⟨⟨k + 1, p', q', by omega, by go_num, rfl, rfl, HI2⟩, by simp [intOf]; omega⟩
    · have HE := hid_of (show k + 1 = n by omega)
      have HI2 := HI.out
      rw [HE.out] at HI2
      have HI3 := hid_of HI2
      clear HI2 HI
      go_wp2
      go_ret2
      exact ⟨ret_ii (by rw [HI3.out.1]) (by rw [HI3.out.2]), _, rfl⟩

/-! ### Op -/
theorem op_bad (op : Int) (a : Option Addr) (n cap : Nat) (w : World) (hn : n ≤ 140737488351232) (h : op < 1 ∨ 4 < op ∨ n = 0 ∨ (op = 4 ∧ 1 < n)) :
    Calls Tryd.prog 22 #[.int .i64 op, .slice a n cap] w fun e w' => e = .returned (.tuple #[.string ByteArray.empty, .int .i64 82]) ∧ w' = w := by
  rcases h with h | h | h | ⟨rfl, h⟩
  · go_enter Tryd.func22, Tryd.ntmps22
    go_wp2
    go_ret2
    exact ⟨rfl, rfl⟩
  · go_enter Tryd.func22, Tryd.ntmps22
    go_wp2
    go_ret2
    exact ⟨rfl, rfl⟩
  · subst h
    rcases (show op < 1 ∨ 4 < op ∨ (1 ≤ op ∧ op ≤ 4) by omega) with h | h | ⟨h, h'⟩
    all_goals
      go_enter Tryd.func22, Tryd.ntmps22
      go_wp2
      go_ret2
      exact ⟨rfl, rfl⟩
  · have h0 : ((n : Int) == 0) = false := by rw [beq_eq_false_iff_ne]; omega
    have h1 : (1 : Int) < (n : Int) := by omega
    go_enter Tryd.func22, Tryd.ntmps22
    go_wp2
    go_ret2
    exact ⟨rfl, rfl⟩
theorem zero_lay (l : List UInt8) (m N : Nat) (hl : l.length = N) (hm : m ≤ N) : lay l m (List.replicate (N - m) 0) = zeroed l m := by
  unfold lay zeroed
  rw [hl, List.drop_eq_nil_of_le (by simp; omega), List.append_nil]
theorem zero5 (w : World) : (zeroValue 5).run Tryd.prog w = .ok (.int .u8 0) w := by kernel_rfl
theorem zeros_cells (n : Nat) : cellsB (List.replicate n 0) = List.replicate n (Value.int .u8 0) := by simp [cellsB]
theorem BRow.lt {w : World} {g : Nat} {l : List UInt8} (h : BRow w g l) (h0 : 0 < l.length) : g < w.heap.size := block_lt_of_cell (h.cell 0 h0)
theorem from_any (g N m : Nat) (x : Int) (hx : x = m) (h : m ≤ N) : ∃ o, (m < N → o = m) ∧ ∀ w, (Instr.slice 54 (.slice (some ⟨g, 0, none⟩) N N) (some (.int .i64 x)) none none).run Tryd.prog w = .ok (.slice (some ⟨g, o, none⟩) (N - m) (N - m)) w := by
  subst hx
  have h2 : (m : Int) ≤ N := by omega
  by_cases h1 : N = m
  · refine ⟨0, fun q => by omega, fun w => ?_⟩
    simp [Instr.slice, run_underlying Tryd.underlying54, Instr.sliceBounds, run_sliceBound, size5, Addr.add, h1]
  · refine ⟨m, fun q => rfl, fun w => ?_⟩
    simp [Instr.slice, run_underlying Tryd.underlying54, Instr.sliceBounds, run_sliceBound, size5, Addr.add, h1, h2]
    omega
/-- clear(out[m:]) -/
theorem clear_run {w : World} {g N m o : Nat} {l : List UInt8} (h : BRow w g l) (hl : l.length = N) (hm : m ≤ N) (ho : m < N → o = m) (ty : TypeId) :
    ∃ w', (Builtin.clear_ #[54] ty #[.slice (some ⟨g, o, none⟩) (N - m) (N - m)]).run Tryd.prog w = .ok (.tuple #[]) w' ∧ BRow w' g (zeroed l m) ∧ ∀ B, B ≤ g → Below B w w' := by
  by_cases q : m < N
  · rw [ho q]
    refine ⟨_, Lib.run_clear_slice w 54 5 ty (.int .u8 0) Tryd.underlying54 zero5 rfl rfl g m (N - m) (N - m) (by omega) (fun j hj => by rw [h.cell (m + j) (by omega)]; rfl) (fun j hj => h.frozen (m + j) (by omega)), ?_, fun B hB => ?_⟩
    · rw [← zeros_cells, ← zero_lay l m N hl hm]
      exact h.lay m _ (by simp; omega)
    · exact below_cells hB _ _ _ (Below.refl _ _)
  · have e : N - m = 0 := by omega
    rw [e]
    refine ⟨w, by simp [Builtin.clear_, run_underlying Tryd.underlying54], ?_, fun B _ => Below.refl _ _⟩
    rw [← zero_lay l m N hl hm, e]
    simpa [lay] using h
theorem neg8 {c : Nat} (h : c < 256) : bits .xor .u8 255 (c : Int) = ((255 - c : Nat) : Int) := by
  revert h; revert c; decide +kernel
end Go.Proofs.YtdkdjgpeeglbhaaDoor.Opp
