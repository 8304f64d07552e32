/- The document's Drop. -/
import Derived.Test.YtiaggddpoddbcaaRefT
namespace Go.Proofs.Ytiaggddpoddbcaa.RefD
open Go.RowKit Go.Maps Go.Shelf
open Go.Proofs.Ytiaggddpoddbcaa.HeapMath
open Go.Proofs.Ytiaggddpoddbcaa.Heap
open Go.Proofs.Ytiaggddpoddbcaa.Turn
open Go.Proofs.Ytiaggddpoddbcaa.Before
open Go.Proofs.Ytiaggddpoddbcaa.RowB
open Go.Proofs.Ytiaggddpoddbcaa.Peek
open Go.Proofs.Ytiaggddpoddbcaa.Take
open Go.Proofs.Ytiaggddpoddbcaa.NewS
open Go.Proofs.Ytiaggddpoddbcaa.RefP
set_option linter.unusedVariables false
set_option linter.unusedSimpArgs false
theorem info62 : (Try.prog.info? 62).map (fun i => (i.zero, i.size, i.bytes)) = some (some (.agg #[.string ⟨#[]⟩, .int .i64 0]), 2, 24) := by kernel_rfl
theorem parts62 : ∃ i, Try.prog.info? 62 = some i ∧ i.zero = some (.agg #[.string ⟨#[]⟩, .int .i64 0]) ∧ i.size = 2 ∧ i.bytes = 24 := by
  have h := info62
  cases e : Try.prog.info? 62 with
  | none => rw [e] at h; cases h
  | some i =>
    rw [e] at h
    simp at h
    exact ⟨i, rfl, h.1, h.2.1, h.2.2⟩
theorem two_new (W : World) (x y : Value) : ∀ (j : Nat) (u : Value), [x, y][j]? = some u → (W.alloc (.cells #[x, y] 62)).cell? ((⟨W.heap.size, 0, none⟩ : Addr).add j) = some u := fun j u hj => by
  have hn : (W.alloc (.cells #[x, y] 62)).heap[W.heap.size]? = some (.cells #[x, y] 62 (0, 0)) := heap_alloc_new W _
  match j, hj with
  | 0, hj =>
    have : (⟨W.heap.size, 0, none⟩ : Addr).add 0 = ⟨W.heap.size, 0, none⟩ := by simp [Addr.add]
    rw [this, Lib.cell_of_heap hn]
    exact hj
  | 1, hj =>
    have : (⟨W.heap.size, 0, none⟩ : Addr).add 1 = ⟨W.heap.size, 1, none⟩ := by simp [Addr.add]
    rw [this, Lib.cell_of_heap hn]
    exact hj
def without (S : Es) (key : Bs) : Es := S.filter (fun x => !decide (x.1 = key))
theorem wo_same {S : Es} {key : Bs} {k : Nat} (h : k < S.length) (e : S[k].1 = key) : without (S.take (k + 1)) key = without (S.take k) key := by
  unfold without
  rw [List.take_succ_eq_append_getElem h, List.filter_append, List.filter_cons_of_neg (by simp [e]), List.filter_nil, List.append_nil]
theorem wo_more {S : Es} {key : Bs} {k : Nat} (h : k < S.length) (e : S[k].1 ≠ key) : without (S.take (k + 1)) key = without (S.take k) key ++ [S[k]] := by
  unfold without
  rw [List.take_succ_eq_append_getElem h, List.filter_append, List.filter_cons_of_pos (by simp [e]), List.filter_nil]
theorem wo_le (S : Es) (key : Bs) (k : Nat) : (without (S.take k) key).length ≤ k := Nat.le_trans (List.length_filter_le _ _) (by rw [List.length_take]; omega)
set_option maxHeartbeats 2000000 in
set_option maxRecDepth 100000 in
theorem rdrop_call {y : Nat} {v : Value} {S : Es} {w : World} (hy : w.heap[y]? = some (.cells #[v] 28 (0, 0))) (h : YL w v S) (hl : S.length < 1099511627776) (key : Bs) :
    Calls Try.prog 31 #[ptr y, .string (mk key)] w fun e w' => e = .returned (.bool (decide ((without S key).length < S.length))) ∧ ∃ w1 v', Below w.heap.size w w1 ∧ w' = w1.setCell ⟨y, 0, none⟩ v' ∧ w1.ownsRow w.heap.size 62 2 v' (without S key).length ((without S key).flatMap cS) := by
  obtain ⟨a, c, rfl, hc, h2⟩ := h
  have HY := hid_of (And.intro hy h2)
  obtain ⟨i0, hi0, hz0, hz1, hz2⟩ := parts62
  clear hy h2
  unfold ptr
  go_enter Try.func31, Try.ntmps31
  go_wp2_with fail
  go_loopg [5, 6] S.length (fun gk s7 s8 wx => ∃ (k m : Nat) (ao : Option Addr) (co : Nat), k + gk = S.length ∧ s8 = .int .i64 (k : Int) ∧ s7 = .slice ao m co ∧ Hid (m = (without (S.take k) key).length ∧ wx.ownsRow w.heap.size 62 2 (.slice ao m co) m ((without (S.take k) key).flatMap cS) ∧ Below w.heap.size w wx))
  case atStart => exact ⟨0, 0, none, 0, by omega, rfl, rfl, hid_of ⟨rfl, World.ownsRow_nil _ _ _ _, Below.refl _ _⟩⟩
  case round =>
    obtain ⟨k, m, ao, co, hk, rfl, rfl, I⟩ := hrel
    have hy1 : wr.heap[y]? = some (.cells #[.slice a S.length c] 28 (0, 0)) := (I.out.2.2.block y (lt_of HY.out.1)).trans HY.out.1
    have cy : wr.cell? ⟨y, 0, none⟩ = some (.slice a S.length c) := Lib.cell_of_heap hy1 0
    have fy : wr.frozen? ⟨y, 0, none⟩ = false := Lib.frozen_of_heap hy1 0
    have hmk : m ≤ k := by rw [I.out.1]; exact wo_le S key k
    clear hy1
    by_cases hlt : k < S.length
    · obtain ⟨g, o, rfl, q1, q2, -⟩ := HY.out.2 k hlt
      have d1 : (k : Int) < (S.length : Int) := by omega
      have p1 := (I.out.2.2.cell (block_lt_of_cell q1)).trans q1
      have p2 := (I.out.2.2.cell (block_lt_of_cell q2)).trans q2
      have e2 : IntKind.i64.wrap ((k : Int) + 1) = (k : Int) + 1 := IntWalk.i64_in _ (by omega)
      have hlx := str_eq S[k].1 key
      by_cases hx : S[k].1 = key
      · have HW := hid_of (wo_same hlt hx)
        rw [decide_eq_true hx] at hlx
        clear hx q1 q2 HY
        generalize mk S[k].1 = X at *
        generalize mk key = Y at *
        go_wp2_with fail
        go_roundg (gk - 1)
        case rel => exact ⟨k + 1, m, ao, co, by omega, by simp, rfl, hid_of (by rw [HW.out]; exact I.out)⟩
        case measure => omega
      · have HW := hid_of (wo_more hlt hx)
        rw [decide_eq_false hx] at hlx
        have HC : Hid (cS S[k] = [.string (mk S[k].1), .int .i64 S[k].2]) := hid_of rfl
        clear hx q1 q2 HY
        generalize mk S[k].1 = X at *
        generalize S[k].2 = tx at *
        generalize mk key = Y at *
        go_wp2_with (at_builtin; refine wpList_append_own _ rfl _ _ 26 rfl w.heap.size 62 i0 (.agg #[.string ⟨#[]⟩, .int .i64 0]) 2 24 Try.underlying26 hi0 hz0 hz1 hz2 rfl (by decide) _ _ _ rfl (I.out.2.1.alloc _) ⟨wr.heap.size, 0, none⟩ 1 1 [.string X, .int .i64 tx] rfl rfl ?c1 ?c2 ?c3 ?c4 ?c5 ?_)
        case c1 => exact two_new _ _ _
        case c2 => simp [Value.oneCell']
        case c3 => unfold maxLen; omega
        case c4 => omega
        case c5 => have := I.out.2.2.size; simp; omega
        intro v' w1 hown hgr hnil
        obtain ⟨g', cap', rfl⟩ := succ_shape hown
        have HN : Hid (m + 1 = (without (S.take (k + 1)) key).length ∧ w1.ownsRow w.heap.size 62 2 (.slice (some ⟨g', 0, none⟩) (m + 1) cap') (m + 1) ((without (S.take (k + 1)) key).flatMap cS) ∧ Below w.heap.size w w1) := hid_of ⟨by rw [HW.out, List.length_append, I.out.1]; rfl, by rw [HW.out, List.flatMap_append, List.flatMap_cons, List.flatMap_nil, List.append_nil, HC.out]; exact hown, by
          have b1 : Below w.heap.size w (wr.alloc (.cells #[.string X, .int .i64 tx] 62)) := I.out.2.2.alloc I.out.2.2.size _
          refine b1.grown hgr b1.size (fun j hj => ?_)
          rcases I.out.2.1.2 with ⟨e', _⟩ | ⟨g2, cap, cur, e', hb, _⟩
          · rw [e'] at hj; cases hj
          · rw [e'] at hj
            injection hj with hj
            have : g2 = j := hj
            omega⟩
        clear hown hgr hnil
        go_wp2_with fail
        go_roundg (gk - 1)
        case rel => exact ⟨k + 1, m + 1, _, _, by omega, by simp, rfl, HN⟩
        case measure => omega
    · have hkS : k = S.length := by omega
      have d1 : ¬ (k : Int) < (S.length : Int) := by omega
      have HE := hid_of (show without (S.take k) key = without S key by rw [hkS, List.take_length])
      by_cases hms : (m : Int) < (S.length : Int)
      · have HB : Hid (decide ((without S key).length < S.length) = true) := hid_of (decide_eq_true (by rw [← HE.out, ← I.out.1]; omega))
        go_wp2_with fail
        go_ret
        exact ⟨ret_b HB.out.symm, wr, I.out.2.2, _, rfl, by rw [← HE.out, ← I.out.1]; exact I.out.2.1⟩
      · have HB : Hid (decide ((without S key).length < S.length) = false) := hid_of (decide_eq_false (by rw [← HE.out, ← I.out.1]; omega))
        go_wp2_with fail
        go_ret
        exact ⟨ret_b HB.out.symm, wr, I.out.2.2, _, rfl, by rw [← HE.out, ← I.out.1]; exact I.out.2.1⟩
end Go.Proofs.Ytiaggddpoddbcaa.RefD
