/- Going over what All gives, as a word of Range: it makes new memory alone. -/
import Derived.Test.YtiaggddpoddbcaaAllS
import Derived.Deep.LoopGhost
import Derived.TacticsInMore
import Derived.LoopNIn
import Derived.LoopIn
import Derived.OwnWalkIn
namespace Go.Proofs.Ytiaggddpoddbcaa.SeqA
open Go.RowKit Go.Maps Go.Shelf
open Go.Proofs.Ytiaggddpoddbcaa.HeapMath
open Go.Proofs.Ytiaggddpoddbcaa.Heap
open Go.Proofs.Ytiaggddpoddbcaa.Turn
open Go.Proofs.Ytiaggddpoddbcaa.Before
open Go.Proofs.Ytiaggddpoddbcaa.RowB
open Go.Proofs.Ytiaggddpoddbcaa.Edge
open Go.Proofs.Ytiaggddpoddbcaa.Range
open Go.Proofs.Ytiaggddpoddbcaa.Peek
open Go.Proofs.Ytiaggddpoddbcaa.Col
set_option linter.unusedVariables false
set_option linter.unusedSimpArgs false
/-- what an iterator may turn that makes new memory alone -/
abbrev Rb (_ : Nat) (A A' : World) : Prop := Below A.heap.size A A'
/-- what a round must leave: the blocks of G -/
structure Kg (G : Nat → Prop) (A A' : World) : Prop where
  size : A.heap.size ≤ A'.heap.size
  own : ∀ k, G k → A'.heap[k]? = A.heap[k]?
theorem Kg.trans {G : Nat → Prop} {A B C : World} (h : Kg G A B) (k : Kg G B C) : Kg G A C := ⟨Nat.le_trans h.size k.size, fun i hi => (k.own i hi).trans (h.own i hi)⟩
abbrev encE (x : Bs × Int) : Array Value := #[.string (mk x.1), .int .i64 x.2]
set_option maxHeartbeats 4000000 in
set_option maxRecDepth 100000 in
theorem seq_pos {q g vc N n : Nat} {S : Es} {L : Nat} {G : Nat → Prop} {J Jx : Es → World → Prop} {W : World} (hN : N = S.length) (hlen : N < 1099511627776) (hq : W.cell? ⟨q, 0, none⟩ = some (.slice (some ⟨g, 0, none⟩) N vc)) (hg : G g) (hgl : g < W.heap.size)
    (hc : ∀ i (hi : i < S.length), W.cell? ⟨g, i * 2, none⟩ = some (.string (mk S[i].1)) ∧ W.cell? ⟨g, i * 2 + 1, none⟩ = some (.int .i64 S[i].2))
    (hJ : ∀ s A A', J s A → Below A.heap.size A A' → J s A')
    (hY : ∀ pre x W1, J pre W1 → pre.length < S.length → YieldAt Fence.wide (n - 1) Try.prog L (encE x) W1 fun e W' => (e = .returned (.bool true) ∧ J (pre ++ [x]) W' ∧ Kg G W1 W') ∨ (e = .returned (.bool false) ∧ Jx (pre ++ [x]) W'))
    (hJ0 : J [] W) :
    Calls Try.prog 44 #[.func (.yield L) #[] #[], .pointer (some ⟨q, 0, none⟩)] W fun e W' => (∃ v, e = .returned v) ∧ ((∃ xs, xs = S ∧ J xs W') ∨ ∃ pre, pre <+: S ∧ Jx pre W') := by
  have HN := hid_of hN
  have HC := hid_of hc
  have HJ := hid_of hJ
  have HY := hid_of hY
  have HG := hid_of (And.intro hg hgl)
  obtain ⟨og, hog⟩ : ∃ og, W.heap[g]? = some og := ⟨_, Array.getElem?_eq_getElem hgl⟩
  have HOG := hid_of hog
  have I0 : Hid (J (S.take 0) W ∧ W.heap[g]? = some og) := hid_of ⟨by simpa using hJ0, hog⟩
  clear hc hJ hY hJ0 hg hN hog
  go_enter Try.func44, Try.ntmps44
  go_wp2_with fail
  go_loopg [7] N (fun gk s7 wx => ∃ i : Nat, i + gk = N ∧ s7 = .int .i64 (i : Int) ∧ Hid (J (S.take i) wx ∧ wx.heap[g]? = some og))
  case atStart => exact ⟨0, by omega, rfl, I0⟩
  case round =>
    obtain ⟨i, hi, rfl, I⟩ := hrel
    clear I0
    refine (wpIn_wide (n := n)).1 ?_
    by_cases hlt : i < N
    · have d1 : (i : Int) < (N : Int) := by omega
      have his : i < S.length := by rw [← HN.out]; exact hlt
      obtain ⟨x, hx⟩ : ∃ x, x = S[i] := ⟨_, rfl⟩
      have c0 : wr.cell? ⟨g, i * 2, none⟩ = some (.string (mk x.1)) := by rw [hx]; exact (World.cell?_of_block (a := ⟨g, i * 2, none⟩) (I.out.2.trans HOG.out.symm)).trans (HC.out i his).1
      have c1 : wr.cell? ⟨g, i * 2 + 1, none⟩ = some (.int .i64 x.2) := by rw [hx]; exact (World.cell?_of_block (a := ⟨g, i * 2 + 1, none⟩) (I.out.2.trans HOG.out.symm)).trans (HC.out i his).2
      obtain ⟨w3, hw3⟩ : ∃ w3, w3 = wr.alloc (.cells #[.string (mk x.1), .int .i64 x.2] 96) := ⟨_, rfl⟩
      have b3 : Below wr.heap.size wr w3 := by rw [hw3]; exact (Below.refl _ wr).alloc (Nat.le_refl _) _
      have x3 : w3.heap[wr.heap.size]? = some (.cells #[.string (mk x.1), .int .i64 x.2] 96 (0, 0)) := by rw [hw3]; exact heap_alloc_new wr _
      have e0 : w3.cell? ⟨wr.heap.size, 0, none⟩ = some (.string (mk x.1)) := Lib.cell_of_heap x3 0
      have e1 : w3.cell? ⟨wr.heap.size, 1, none⟩ = some (.int .i64 x.2) := Lib.cell_of_heap x3 1
      have hgr : g < wr.heap.size := by
        have h := HC.out i his
        have := block_lt_of_cell c0
        exact this
      have htl : (S.take i).length = i := by rw [List.length_take]; omega
      obtain ⟨fn, tmps, assign, body, hy, hR⟩ := HY.out (S.take i) x w3 (HJ.out _ _ _ I.out.1 b3) (by rw [htl]; exact his)
      have htk : S.take i ++ [x] = S.take (i + 1) := by rw [hx]; exact (List.take_succ_eq_append_getElem his).symm
      rw [htk] at hR
      have HR := hid_of hR
      have H3 : Hid (w3.heap[g]? = some og) := hid_of ((b3.block g hgr).trans I.out.2)
      have HW3 := hid_of hw3
      have hw3' : wr.alloc (.cells #[.string (mk x.1), .int .i64 x.2] 96) = w3 := hw3.symm
      have ew : IntKind.i64.wrap ((i : Int) + 1) = (i : Int) + 1 := IntWalk.i64_in _ (by omega)
      clear hR htk b3 x3 hx htl hw3 hgr
      unfold encE at hy
      generalize mk x.1 = X at *
      generalize x.2 = tx at *
      gi_wp2_with fail
      refine ⟨(fun q => by cases q), HR.out.mono ?_⟩
      rintro r w4 (⟨rfl, j4, k4⟩ | ⟨rfl, j4⟩)
      · have HN4 : Hid (J (S.take (i + 1)) w4 ∧ w4.heap[g]? = some og) := hid_of ⟨j4, (k4.own g HG.out.1).trans H3.out⟩
        clear j4 k4 hy c0 c1 e0 e1
        gi_wp2_with fail
        go_roundg (gk - 1)
        case rel => exact ⟨i + 1, by omega, by rw [show ((i + 1 : Nat) : Int) = (i : Int) + 1 from by omega], HN4⟩
        case measure => omega
      · clear hy c0 c1 e0 e1
        gi_wp2_with fail
        refine bodyPost_ret (results_none rfl _ _ _) rfl ?_
        exact ⟨⟨_, rfl⟩, .inr ⟨_, List.take_prefix _ _, j4⟩⟩
    · have d1 : ¬ (i : Int) < (N : Int) := by omega
      have HE : Hid (J S wr) := hid_of (by have := I.out.1; rwa [List.take_of_length_le (by have := HN.out; omega)] at this)
      gi_wp2_with fail
      go_end0
      first | exact ⟨⟨_, rfl⟩, .inl ⟨S, rfl, HE.out⟩⟩ | exact ⟨⟨_, rfl⟩, .inl HE.out⟩
set_option maxHeartbeats 1000000 in
set_option maxRecDepth 100000 in
theorem seq_nil {q vc L : Nat} {va : Option Addr} {J Jx : Es → World → Prop} {W : World} (hq : W.cell? ⟨q, 0, none⟩ = some (.slice va 0 vc)) (hJ0 : J [] W) :
    Calls Try.prog 44 #[.func (.yield L) #[] #[], .pointer (some ⟨q, 0, none⟩)] W fun e W' => (∃ v, e = .returned v) ∧ ((∃ xs, xs = [] ∧ J xs W') ∨ ∃ pre, pre <+: ([] : Es) ∧ Jx pre W') := by
  have HJ := hid_of hJ0
  clear hJ0
  go_enter Try.func44, Try.ntmps44
  go_wp2_with fail
  go_loopg [7] 1 (fun gk s7 wx => s7 = .int .i64 0 ∧ wx = W)
  case atStart => exact ⟨rfl, rfl⟩
  case round =>
    obtain ⟨rfl, rfl⟩ := hrel
    go_wp2_with fail
    go_end0
    first | exact ⟨⟨_, rfl⟩, .inl ⟨[], rfl, HJ.out⟩⟩ | exact ⟨⟨_, rfl⟩, .inl HJ.out⟩
/-- the row behind it -/
def Own (G : Nat → Prop) (v : Value) : Prop := ∀ g, v.ownBlock = some g → G g
theorem all_seq {q B vc n : Nat} {va : Option Addr} {S : Es} {w : World} {G : Nat → Prop} (hlen : S.length < 1099511627776) (hq : w.heap[q]? = some (.cells #[.slice va S.length vc] 68 (0, 0))) (hr : w.ownsRow B 96 2 (.slice va S.length vc) S.length (S.flatMap cS)) (hG : Own G (.slice va S.length vc)) :
    SeqR Rb n Try.prog 44 #[.pointer (some ⟨q, 0, none⟩)] encE (Kg G) (fun xs => xs = S) (fun pre => pre <+: S) S.length w := fun L J Jx W hW hJ _ hY hJ0 => by
  have cq : W.cell? ⟨q, 0, none⟩ = some (.slice va S.length vc) := Lib.cell_of_heap ((hW.block q (lt_of hq)).trans hq) 0
  rcases Nat.eq_zero_or_pos S.length with h0 | h0
  · have e0 : S = [] := List.length_eq_zero_iff.1 h0
    subst e0
    exact seq_nil cq hJ0
  · obtain ⟨g, c, e, _, hc⟩ := row_block hr h0
    injection e with e1 e2 e3
    subst e1
    have hgw : g < w.heap.size := block_lt_of_cell (hc 0 h0).1
    refine seq_pos (n := n) rfl hlen cq (hG g rfl) (Nat.lt_of_lt_of_le hgw hW.size) (fun i hi => ?_) (fun s A A' h k => hJ s A A' h k) hY hJ0
    have q := hc i hi
    exact ⟨(hW.cell (p := ⟨g, i * 2, none⟩) hgw).trans q.1, (hW.cell (p := ⟨g, i * 2 + 1, none⟩) hgw).trans q.2⟩
end Go.Proofs.Ytiaggddpoddbcaa.SeqA
