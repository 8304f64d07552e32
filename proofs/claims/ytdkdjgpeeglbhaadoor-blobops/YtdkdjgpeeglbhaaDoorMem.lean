/- Rows of bytes in memory; laid of the code. -/
import Derived.Test.YtdkdjgpeeglbhaaDoorReads
import Derived.Test.YtdkdjgpeeglbhaaDoorOpMath
import Derived.Lib.LazyBuf
import Derived.Lib.SliceRun
import Derived.Lib.SlBytesRow
import Derived.BigFrame
import Derived.OwnWalk
namespace Go.Proofs.YtdkdjgpeeglbhaaDoor.Mem
open Go.RowKit
open Go.Proofs.YtdkdjgpeeglbhaaDoor.BlobMath
open Go.Proofs.YtdkdjgpeeglbhaaDoor.Span
open Go.Proofs.YtdkdjgpeeglbhaaDoor.Bits
open Go.Proofs.YtdkdjgpeeglbhaaDoor.Reads
set_option linter.unusedVariables false
set_option linter.unusedSimpArgs false

theorem bel {B : Nat} {a b c : World} (h : Below B a b) (k : Below b.heap.size b c) (hB : B ≤ a.heap.size) : Below B a c := h.trans (k.mono (Nat.le_trans hB h.size))
/-- the bytes l lie in block g -/
structure BRow (w : World) (g : Nat) (l : List UInt8) : Prop where
  cell : ∀ k, k < l.length → w.cell? ⟨g, k, none⟩ = some (.int .u8 (at8 l k : Nat))
  frozen : ∀ k, k < l.length → w.frozen? ⟨g, k, none⟩ = false
theorem BRow.keep {w w' : World} {g : Nat} {l : List UInt8} {B : Nat} (h : BRow w g l) (b : Below B w w') (hg : g < B) : BRow w' g l :=
  ⟨fun k hk => (b.cell (p := ⟨g, k, none⟩) hg).trans (h.cell k hk), fun k hk => (b.frozen (p := ⟨g, k, none⟩) hg).trans (h.frozen k hk)⟩
theorem BRow.drewN {w : World} {g : Nat} {l : List UInt8} (h : BRow w g l) (n : Nat) : BRow (w.drewN n) g l := ⟨h.cell, h.frozen⟩
theorem BRow.set {w : World} {g : Nat} {l : List UInt8} (h : BRow w g l) (k : Nat) (hk : k < l.length) (x : Nat) (hx : x < 256) : BRow (w.setCell ⟨g, k, none⟩ (.int .u8 (x : Int))) g (l.set k (UInt8.ofNat x)) := by
  refine ⟨fun j hj => ?_, fun j hj => ?_⟩
  · rw [List.length_set] at hj
    rw [at8_set hk]
    by_cases q : j = k
    · subst q
      rw [if_pos rfl, UInt8.toNat_ofNat', Nat.mod_eq_of_lt hx]
      exact World.cell?_setCell_same w _ _ (h.cell j hj)
    · rw [if_neg q, World.cell?_setCell_other w _ _ _ (by intro e; cases e; omega)]
      exact h.cell j hj
  · rw [List.length_set] at hj
    rw [World.frozen?_setCell]
    exact h.frozen j hj
def lay (l : List UInt8) (o : Nat) (m : List UInt8) : List UInt8 := l.take o ++ m ++ l.drop (o + m.length)
theorem lay_len {l : List UInt8} {o : Nat} {m : List UInt8} (h : o + m.length ≤ l.length) : (lay l o m).length = l.length := by simp [lay]; omega
theorem lay_at {l : List UInt8} {o : Nat} {m : List UInt8} (h : o + m.length ≤ l.length) (k : Nat) : at8 (lay l o m) k = if o ≤ k ∧ k < o + m.length then at8 m (k - o) else at8 l k := by
  unfold lay at8
  simp only [List.getD, List.append_assoc]
  by_cases h1 : k < o
  · rw [if_neg (by omega), List.getElem?_append_left (by simp; omega), List.getElem?_take_of_lt h1]
  · rw [List.getElem?_append_right (by simp; omega)]
    have e : (l.take o).length = o := by simp; omega
    rw [e]
    by_cases h2 : k < o + m.length
    · rw [if_pos ⟨by omega, h2⟩, List.getElem?_append_left (by omega)]
    · rw [if_neg (by omega), List.getElem?_append_right (by omega), List.getElem?_drop, show o + m.length + (k - o - m.length) = k by omega]
def cellsB (m : List UInt8) : List Value := m.map fun x => Value.int .u8 (x.toNat : Int)
theorem cellsB_get (m : List UInt8) (j : Nat) (h : j < (cellsB m).length) : (cellsB m)[j] = Value.int .u8 (at8 m j : Nat) := by
  have h' : j < m.length := by simpa [cellsB] using h
  rw [at8_in h']; simp [cellsB]
theorem BRow.lay {w : World} {g : Nat} {l : List UInt8} (h : BRow w g l) (o : Nat) (m : List UInt8) (hm : o + m.length ≤ l.length) : BRow (w.setCells g o (cellsB m)) g (lay l o m) := by
  have hl : (cellsB m).length = m.length := by simp [cellsB]
  refine ⟨fun k hk => ?_, fun k hk => ?_⟩
  · rw [lay_len hm] at hk
    rw [lay_at hm]
    by_cases q : o ≤ k ∧ k < o + m.length
    · rw [if_pos q]
      have := World.cell?_setCells_in g (cellsB m) o w (fun j hj => by rw [h.cell (o + j) (by omega)]; rfl) (k - o) (by omega)
      rw [show o + (k - o) = k by omega, cellsB_get] at this
      exact this
    · rw [if_neg q, World.cell?_setCells_out g _ _ _ _ (fun _ _ => by show k < o ∨ _ ≤ k; omega)]
      exact h.cell k hk
  · rw [lay_len hm] at hk
    rw [World.frozen?_setCells]
    exact h.frozen k hk
def mkB (l : List UInt8) : ByteArray := ⟨l.toArray⟩
theorem mkB_size (l : List UInt8) : (mkB l).size = l.length := by simp [mkB, ByteArray.size]
theorem BRow.conv {w : World} {g : Nat} {l : List UInt8} (h : BRow w g l) (N cap : Nat) (hN : N = l.length) : (convert 54 9 (.slice (some ⟨g, 0, none⟩) N cap)).run Tryd.prog w = .ok (.string (mkB l)) w := by
  subst hN
  have hb : Lib.Bytes w g 0 (mkB l) := by
    intro i hi
    rw [mkB_size] at hi
    rw [Nat.zero_add, h.cell i hi, at8_in hi]
    rfl
  have := Lib.run_convert_whole (P := Tryd.prog) w 54 5 9 Tryd.underlying54 Tryd.underlying5 Tryd.underlying9 g 0 _ hb cap
  rwa [mkB_size] at this
theorem BRow.of_own {w : World} {base g : Nat} {n cap : Nat} {l : List UInt8} (hl : l.length = n) (h : w.ownsRow base 5 1 (.slice (some ⟨g, 0, none⟩) n cap) n (cellsB l)) : BRow w g l := by
  refine ⟨fun k hk => ?_, fun k hk => h.frozenAt k⟩
  rw [h.cellAt k (by omega)]
  have hk' : k < (cellsB l).length := by simp [cellsB]; exact hk
  rw [List.getElem?_eq_getElem hk', cellsB_get]
theorem info5 : (Tryd.prog.info? 5).map (fun i => (i.zero, i.size, i.bytes)) = some (some (.int .u8 0), 1, 1) := by kernel_rfl
theorem size5 (w : World) : (Go.sizeOf 5).run Tryd.prog w = .ok 1 w := by kernel_rfl
theorem made_row (n : Nat) : (madeCells #[Value.int .u8 0] n).toList = cellsB (List.replicate n 0) := by
  rw [toList_madeCells_one]; simp [cellsB]
theorem pad_lay (l : List UInt8) (n : Nat) : lay (List.replicate (max l.length n) 0) 0 l = pad l n := by
  unfold lay pad
  simp [List.drop_replicate]
  omega
theorem below_cells {B b : Nat} {a : World} (hb : B ≤ b) (vs : List Value) (o : Nat) (w : World) (h : Below B a w) : Below B a (w.setCells b o vs) := below_setCells hb vs o w h

set_option maxHeartbeats 400000 in
set_option maxRecDepth 100000 in
theorem laid_call (s : ByteArray) (n : Nat) (w : World) (hs : s.size ≤ 140737488351232) (hn : n ≤ 140737488351232) :
    Calls Tryd.prog 29 #[.string s, .int .i64 (n : Int)] w fun e w' => e = .returned (.slice (some ⟨w.heap.size, 0, none⟩) (max s.size n) (max s.size n)) ∧ BRow w' w.heap.size (pad (txt s) n) ∧ Below w.heap.size w w' ∧ w.heap.size < w'.heap.size := by
  obtain ⟨i0, hi, hz0, hz1, hz2⟩ := info_parts info5
  obtain ⟨N, HN⟩ : ∃ N, Hid (N = max s.size n) := ⟨_, hid_of rfl⟩
  rw [← HN.out]
  have hsN : s.size ≤ N := by rw [HN.out]; omega
  have hN : N ≤ 140737488351232 := by rw [HN.out]; omega
  have HS := hid_of (show s.data.toList.length = s.size by simp)
  have hm : max (s.size : Int) (n : Int) = (N : Int) := by have := HN.out; omega
  go_enter Tryd.func29, Tryd.ntmps29
  go_wp2_with (at_make; refine wpList_make_full _ rfl _ _ 54 rfl w.heap.size 5 i0 (.int .u8 0) 1 Tryd.underlying54 hi hz0 hz1 _ _ _ _ N rfl rfl (by first | rfl | exact hm) (by first | rfl | exact hm) ?b2 ?b3 (Nat.le_refl _) ?_)
  case b2 => rw [hz2]; omega
  case b3 => unfold maxLen; omega
  intro w0 hown0 hgrow0
  have hr0 : BRow w0 w.heap.size (List.replicate N 0) := BRow.of_own (n := N) (cap := N) (base := w.heap.size) (by simp) (by rw [made_row] at hown0; exact hown0)
  have hb0 : Below w.heap.size w w0 := (Below.refl _ _).grown hgrow0 (Nat.le_refl _) (fun k h => by cases h)
  have hlt : w.heap.size < w0.heap.size := (hown0.lt _ rfl).2
  have hcp : ∀ ty, (Builtin.copy_ #[54, 9] ty #[.slice (some ⟨w.heap.size, 0, none⟩) N N, .string s]).run Tryd.prog w0 = .ok (goInt s.size) (w0.setCells w.heap.size 0 (cellsB (txt s))) := fun ty =>
    run_copy_string w0 54 9 ty 5 w.heap.size 0 N N s Tryd.underlying54 size5 hsN (fun j hj => by rw [Nat.zero_add, hr0.cell j (by simp; omega)]; rfl) (fun j hj => by rw [Nat.zero_add]; exact hr0.frozen j (by simp; omega))
  have R1 := hid_of (hr0.lay 0 (txt s) (by have := HS.out; unfold txt; simp; omega))
  have R2 := hid_of (below_cells (Nat.le_refl _) (cellsB (txt s)) 0 w0 hb0)
  have R3 := hid_of (show w.heap.size < (w0.setCells w.heap.size 0 (cellsB (txt s))).heap.size from Nat.lt_of_lt_of_le hlt (below_cells (B := w.heap.size) (Nat.le_refl _) (cellsB (txt s)) 0 w0 (Below.refl _ w0)).size)
  have R4 := hid_of (show lay (List.replicate N 0) 0 (txt s) = pad (txt s) n by rw [← pad_lay, HN.out]; unfold txt; rw [HS.out])
  clear hr0 hb0 hlt hown0 hgrow0 hm
  go_wp2_with (simp only [hcp])
  go_ret
  exact ⟨rfl, by rw [← R4.out]; exact R1.out, R2.out, R3.out⟩
end Go.Proofs.YtdkdjgpeeglbhaaDoor.Mem
