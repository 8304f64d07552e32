/- The document's own May. -/
import Derived.Test.YtdggpldmkeoeeaaDoorRep
namespace Go.Proofs.YtdggpldmkeoeeaaDoor.RefMay
open Go.RowKit
open Go.Proofs.YtdggpldmkeoeeaaDoor.TextMath
open Go.Proofs.YtdggpldmkeoeeaaDoor.RepMath
open Go.Proofs.YtdggpldmkeoeeaaDoor.Cut
open Go.Proofs.YtdggpldmkeoeeaaDoor.Rep
set_option linter.unusedVariables false

def box (k : Int) (t : ByteArray) (n : Int) (a : Option Addr) (len cap : Nat) : Obj := .cells #[.int .i64 k, .string t, .int .i64 n, .slice a len cap] 24
theorem box_at {w W : World} {k : Int} {t : ByteArray} {n : Int} {a : Option Addr} {len cap : Nat} (h : Below (w.heap.size + 1) (w.alloc (box k t n a len cap)) W) :
    W.cell? ⟨w.heap.size, 0, none⟩ = some (.int .i64 k) ∧ W.cell? ⟨w.heap.size, 1, none⟩ = some (.string t) ∧ W.cell? ⟨w.heap.size, 2, none⟩ = some (.int .i64 n) ∧ W.cell? ⟨w.heap.size, 3, none⟩ = some (.slice a len cap) := by
  have e : W.heap[w.heap.size]? = some (box k t n a len cap) := by
    rw [h.block _ (Nat.lt_succ_self _)]
    exact heap_alloc_new w _
  unfold box at e
  refine ⟨?_, ?_, ?_, ?_⟩ <;> (rw [Lib.cell_of_heap e]; rfl)
theorem box_below {w W : World} {o : Obj} (h : Below (w.heap.size + 1) (w.alloc o) W) : Below w.heap.size w W :=
  ((Below.refl _ w).alloc (Nat.le_refl _) o).trans (h.mono (Nat.le_succ _))
theorem alloc_b (w : World) (o : Obj) : Below w.heap.size w (w.alloc o) := (Below.refl _ w).alloc (Nat.le_refl _) o
theorem size_ne (t : ByteArray) : t.toList.isEmpty = (t.size == 0) := empty_b t
theorem gt_b (l : List Rp) : decide (0 < (l.length : Int)) = !l.isEmpty := by cases l <;> simp

/- a head that no reply has -/
set_option maxRecDepth 100000 in
set_option maxHeartbeats 4000000 in
theorem bad_text (d k : Int) (hk : k = 3 ∨ k = 5 ∨ k = 6 ∨ k = 7) (t : ByteArray) (n : Int) (a : Option Addr) (len cap : Nat) (w : World) (hT : t.toList.isEmpty = false) :
    Calls Tryd.prog 29 #[.agg #[.int .i64 k, .string t, .int .i64 n, .slice a len cap], .int .i64 d] w fun e w' => e = .returned (.bool false) ∧ Below w.heap.size w w' := by
  rcases hk with rfl | rfl | rfl | rfl
  all_goals
    go_enter Tryd.func29, Tryd.ntmps29
    go_wp2_with fail
    go_ret
    exact ⟨rfl, alloc_b _ _⟩
set_option maxRecDepth 100000 in
set_option maxHeartbeats 4000000 in
theorem bad_num (d k : Int) (t : ByteArray) (n : Int) (a : Option Addr) (len cap : Nat) (w : World) (bT : Bool) (hT : t.toList.isEmpty = bT) (hk : k = 1 ∨ k = 2 ∨ k = 4 ∨ (bT = true ∧ (k = 5 ∨ k = 6 ∨ k = 7))) (hN : (n == 0) = false) :
    Calls Tryd.prog 29 #[.agg #[.int .i64 k, .string t, .int .i64 n, .slice a len cap], .int .i64 d] w fun e w' => e = .returned (.bool false) ∧ Below w.heap.size w w' := by
  have hN2 : (n != 0) = true := by unfold bne; rw [hN]; rfl
  rcases hk with rfl | rfl | rfl | ⟨rfl, rfl | rfl | rfl⟩ <;> (try cases bT)
  all_goals
    first
    | (exfalso; contradiction)
    | (go_enter Tryd.func29, Tryd.ntmps29
       go_wp2_with fail
       go_ret
       exact ⟨rfl, alloc_b _ _⟩)
set_option maxRecDepth 100000 in
set_option maxHeartbeats 4000000 in
theorem bad_list (d k : Int) (t : ByteArray) (n : Int) (a : Option Addr) (len cap : Nat) (w : World) (bT bN : Bool) (hT : t.toList.isEmpty = bT) (hN : (n == 0) = bN)
    (hk : (bN = true ∧ (k = 1 ∨ k = 2 ∨ k = 4)) ∨ (bT = true ∧ k = 3) ∨ (bT = true ∧ bN = true ∧ (k = 5 ∨ k = 7))) (hL : decide (0 < (len : Int)) = true) :
    Calls Tryd.prog 29 #[.agg #[.int .i64 k, .string t, .int .i64 n, .slice a len cap], .int .i64 d] w fun e w' => e = .returned (.bool false) ∧ Below w.heap.size w w' := by
  have hN2 : (n != 0) = !bN := by unfold bne; rw [hN]
  have hL2 : 0 < len := by simpa using hL
  rcases hk with ⟨rfl, rfl | rfl | rfl⟩ | ⟨rfl, rfl⟩ | ⟨rfl, rfl, rfl | rfl⟩ <;> (try cases bT) <;> (try cases bN)
  all_goals
    first
    | (exfalso; contradiction)
    | (go_enter Tryd.func29, Tryd.ntmps29
       go_wp2_with fail
       go_ret
       exact ⟨rfl, alloc_b _ _⟩)
set_option maxRecDepth 100000 in
set_option maxHeartbeats 4000000 in
theorem bad_kind (d k : Int) (t : ByteArray) (n : Int) (a : Option Addr) (len cap : Nat) (w : World) (hk : k < 1 ∨ 7 < k) :
    Calls Tryd.prog 29 #[.agg #[.int .i64 k, .string t, .int .i64 n, .slice a len cap], .int .i64 d] w fun e w' => e = .returned (.bool false) ∧ Below w.heap.size w w' := by
  rcases hk with h | h
  · have h1 : decide (k < 1) = true := by simp; omega
    go_enter Tryd.func29, Tryd.ntmps29
    go_wp2_with fail
    go_ret
    exact ⟨rfl, alloc_b _ _⟩
  · have h1 : decide (k < 1) = false := by simp; omega
    have h2 : decide (7 < k) = true := by simp; omega
    go_enter Tryd.func29, Tryd.ntmps29
    go_wp2_with fail
    go_ret
    exact ⟨rfl, alloc_b _ _⟩
end Go.Proofs.YtdggpldmkeoeeaaDoor.RefMay
