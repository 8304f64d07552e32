/- Line. -/
import Derived.Test.YthmfgnagpifnlaaSure
import Derived.Deep.RegionHeld3
namespace Go.Proofs.Ythmfgnagpifnlaa.Line
open Go.RowKit
open Go.Proofs.Ythmfgnagpifnlaa.PipeMath
open Go.Proofs.Ythmfgnagpifnlaa.Base
open Go.Proofs.Ythmfgnagpifnlaa.Queue
open Go.Proofs.Ythmfgnagpifnlaa.Queue2
open Go.Proofs.Ythmfgnagpifnlaa.Net
open Go.Proofs.Ythmfgnagpifnlaa.Calls
open Go.Proofs.Ythmfgnagpifnlaa.Sure
set_option linter.unusedVariables false

def lineC (k : Cn) : Array Value := #[.int .i64 ((if k.shut then 0 else k.unread : Nat) : Int), .int .i64 (k.left : Int), .bool false, .bool k.closed, .bool k.ended, .bool k.cut]
def line0 : Array Value := #[.int .i64 0, .int .i64 0, .bool false, .bool false, .bool false, .bool false]
def lineV (n : Nt) (c : Int) : Value := .agg (match n.at c with | some k => lineC k | none => line0)
def lineE (n : Nt) (c : Int) : Int := match n.at c with | some _ => 0 | none => 60
def set6 (W : World) (N : Nat) (v0 v1 v2 v3 v4 v5 : Value) : World := (((((W.setCell ⟨N, 0, none⟩ v0).setCell ⟨N, 1, none⟩ v1).setCell ⟨N, 2, none⟩ v2).setCell ⟨N, 3, none⟩ v3).setCell ⟨N, 4, none⟩ v4).setCell ⟨N, 5, none⟩ v5
theorem set6_at {W : World} {N : Nat} {u0 u1 u2 u3 u4 u5 v0 v1 v2 v3 v4 v5 : Value} {t : TypeId} (h : W.heap[N]? = some (.cells #[u0, u1, u2, u3, u4, u5] t (0, 0))) : (set6 W N v0 v1 v2 v3 v4 v5).heap[N]? = some (.cells #[v0, v1, v2, v3, v4, v5] t (0, 0)) :=
  set_at (set_at (set_at (set_at (set_at (set_at h v0) v1) v2) v3) v4) v5
theorem set6_ne {W : World} {N k : Nat} (h : k ≠ N) (v0 v1 v2 v3 v4 v5 : Value) : (set6 W N v0 v1 v2 v3 v4 v5).heap[k]? = W.heap[k]? :=
  (set_ne h _).trans ((set_ne h _).trans ((set_ne h _).trans ((set_ne h _).trans ((set_ne h _).trans (set_ne h _)))))
theorem below_drewN {B : Nat} {w W : World} (h : Below B w W) (m : Nat) : Below B w (W.drewN m) := ⟨h.os, h.tape, h.output, h.size, h.block⟩
theorem lw6_below {w W : World} {B N : Nat} {v0 v1 v2 v3 v4 v5 : Value} (hN : B ≤ N) (h : Below B w W) : Below B w (set6 W N v0 v1 v2 v3 v4 v5) :=
  (((((h.setCell hN _).setCell hN _).setCell hN _).setCell hN _).setCell hN _).setCell hN _
theorem below1 {w W : World} {B N : Nat} (h : Below B w W) (hN : B ≤ N) (v : Value) : Below B w (W.setCell ⟨N, 0, none⟩ v) := h.setCell hN v
theorem below6 {w W : World} {B : Nat} (h : Below B w W) (v0 v1 v2 v3 v4 v5 : Value) : Below B w ((((((W.setCell ⟨B, 0, none⟩ v0).setCell ⟨B, 1, none⟩ v1).setCell ⟨B, 2, none⟩ v2).setCell ⟨B, 3, none⟩ v3).setCell ⟨B, 4, none⟩ v4).setCell ⟨B, 5, none⟩ v5) := lw6_below (Nat.le_refl _) h
set_option maxHeartbeats 1000000 in
set_option maxRecDepth 100000 in
theorem line_none {F : Nat → Prop} {b : Nat} {y : Lay} {n : Nt} {w : World} (h : NK F b y n w) {c : Int} (hc : n.at c = none) :
    Calls Try.prog 15 #[ptr b, .int .i64 c] w fun e w' => e = .returned (.tuple #[.agg line0, .int .i64 60]) ∧ Below w.heap.size w w' := by
  have H1 := hid_of (find_none (h.alloc (.cells #[.int .i64 0, .int .i64 0, .bool false, .bool false, .bool false, .bool false] 46)) hc)
  clear h
  go_enter Try.func15, Try.ntmps15
  go_wp2_with fail
  refine H1.out.mono ?_
  rintro e w1 ⟨rfl, rfl⟩
  go_wp2_with fail
  refine bodyPost_ret (v := .tuple #[.agg line0, .int .i64 60]) (by simp [results, Try.results15, go_sem, line0]) rfl ⟨rfl, ?_⟩
  repeat' (first | exact Below.refl _ _ | refine Below.setCell ?_ (Nat.le_refl _) _ | refine Below.alloc ?_ (Nat.le_refl _) _)
set_option maxHeartbeats 2000000 in
set_option maxRecDepth 100000 in
theorem line_some {F : Nat → Prop} {b : Nat} {y : Lay} {n : Nt} {w : World} (h : NK F b y n w) {i : Nat} {k : Cn} (hk : n.cs[i]? = some k) (hz : k.wrote.length ≤ 140737488355328) (hz2 : k.sent.length ≤ 140737488355328) :
    Calls Try.prog 15 #[ptr b, .int .i64 (i : Int)] w fun e w' => e = .returned (.tuple #[.agg (lineC k), .int .i64 0]) ∧ Below w.heap.size w w' := by
  have hi : i < n.cs.length := (List.getElem?_eq_some_iff.1 hk).1
  have h1 := h.alloc (.cells #[.int .i64 0, .int .i64 0, .bool false, .bool false, .bool false, .bool false] 46)
  have H1 := hid_of (find_some h1 hi)
  have q := h.fl i k hk
  have hlt : y.pos i < w.heap.size := lt_of q.blk
  have ok := h.ok.all k (List.mem_of_getElem? hk)
  have c2 : w.cell? ⟨y.pos i, 2, none⟩ = some (.bool k.ended) := by rw [Lib.cell_of_heap q.blk]; rfl
  have c5 : w.cell? ⟨y.pos i, 5, none⟩ = some (.bool k.closed) := by rw [Lib.cell_of_heap q.blk]; rfl
  have c6 : w.cell? ⟨y.pos i, 6, none⟩ = some (.bool k.cut) := by rw [Lib.cell_of_heap q.blk]; rfl
  obtain ⟨a, cp, hv⟩ := row_shape q.outr
  have H2 := hid_of (fun W (h0 : W.heap[y.pos i]? = w.heap[y.pos i]?) => left_call (y.pos i) 3 a k.wrote.length cp k.tk W ok.tk (by omega) (by rw [Lib.cell_of_heap (h0.trans q.blk), ← hv]; rfl) (by rw [Lib.cell_of_heap (h0.trans q.blk)]; rfl))
  obtain ⟨a2, cp2, hv2⟩ := row_shape q.inr
  have H3 := hid_of (fun W (h0 : W.heap[y.pos i]? = w.heap[y.pos i]?) => left_call (y.pos i) 0 a2 k.sent.length cp2 k.rd W ok.rd (by omega) (by rw [Lib.cell_of_heap (h0.trans q.blk), ← hv2]; rfl) (by rw [Lib.cell_of_heap (h0.trans q.blk)]; rfl))
  have e1 : k.wrote.length - k.tk = k.left := rfl
  have e2 : k.sent.length - k.rd = k.unread := rfl
  rw [e1] at H2
  rw [e2] at H3
  have H4 := hid_of (fun W (h0 : W.heap[y.pos i]? = w.heap[y.pos i]?) => shut_call (y.pos i) k.closed k.cut W (by rw [Lib.cell_of_heap (h0.trans q.blk)]; rfl) (by rw [Lib.cell_of_heap (h0.trans q.blk)]; rfl))
  obtain ⟨A, hA⟩ : ∃ A, A = (w.alloc (.cells #[.int .i64 0, .int .i64 0, .bool false, .bool false, .bool false, .bool false] 46)) := ⟨_, rfl⟩
  have hltA : y.pos i < A.heap.size := by rw [hA]; simp; omega
  have HA : Hid (A.heap[y.pos i]? = w.heap[y.pos i]?) := by rw [hA]; exact Below.heap_alloc _ _ _ hlt
  have HA2 : Hid (∀ o, (A.drew.alloc o).heap[y.pos i]? = w.heap[y.pos i]?) := fun o => (Below.heap_alloc A.drew o _ hltA).trans HA.out
  have d2 : A.cell? ⟨y.pos i, 2, none⟩ = some (.bool k.ended) := by rw [Lib.cell_of_heap (HA.out.trans q.blk)]; rfl
  have d5 : A.cell? ⟨y.pos i, 5, none⟩ = some (.bool k.closed) := by rw [Lib.cell_of_heap (HA.out.trans q.blk)]; rfl
  have d6 : A.cell? ⟨y.pos i, 6, none⟩ = some (.bool k.cut) := by rw [Lib.cell_of_heap (HA.out.trans q.blk)]; rfl
  rw [← hA] at H1
  have HE := hid_of hA
  clear h h1 q ok hv hv2 e1 e2 hA c2 c5 c6 hlt
  go_enter Try.func15, Try.ntmps15
  go_wp2_with fail
  rw [← HE.out]
  refine H1.out.mono ?_
  rintro e w1 ⟨rfl, rfl⟩
  go_wp2_with fail
  have z1 : ∀ k j, ((w1.drewN k).alloc (.cells #[.int .i64 0, .int .i64 0, .bool false, .bool false, .bool false, .bool false] 46)).frozen? ⟨w1.heap.size, j, none⟩ = false := fun k j => Lib.frozen_of_heap (heap_alloc_new (w1.drewN k) _) j
  have z2 : ∀ k j, ((w1.drewN k).alloc (.cells #[.int .i64 0, .int .i64 0, .bool false, .bool false, .bool false, .bool false] 46)).cell? ⟨w1.heap.size, j, none⟩ = (#[.int .i64 0, .int .i64 0, .bool false, .bool false, .bool false, .bool false] : Array Value)[j]? := fun k j => Lib.cell_of_heap (heap_alloc_new (w1.drewN k) _) j
  have z3 : ∀ k j, ((w1.drew.alloc (.cells #[.int .i64 0, .int .i64 0, .bool false, .bool false, .bool false, .bool false] 46)).drewN k).frozen? ⟨w1.heap.size, j, none⟩ = false := fun k j => Lib.frozen_of_heap (heap_alloc_new (w1.drew) _) j
  have z4 : ∀ k j, ((w1.drew.alloc (.cells #[.int .i64 0, .int .i64 0, .bool false, .bool false, .bool false, .bool false] 46)).drewN k).cell? ⟨w1.heap.size, j, none⟩ = (#[.int .i64 0, .int .i64 0, .bool false, .bool false, .bool false, .bool false] : Array Value)[j]? := fun k j => Lib.cell_of_heap (heap_alloc_new (w1.drew) _) j
  have n2 := World.new_ne w1 _ d2
  have n5 := World.new_ne w1 _ d5
  have n6 := World.new_ne w1 _ d6
  go_region_held3 (fun W => W.cell? ⟨y.pos i, 2, none⟩ = some (.bool k.ended) ∧ W.cell? ⟨y.pos i, 5, none⟩ = some (.bool k.closed) ∧ W.cell? ⟨y.pos i, 6, none⟩ = some (.bool k.cut)) (go_keep) (first
    | (go_at_call 42; refine (H2.out _ ?_).mono ?_; (first | exact HA.out | exact HA2.out _); rintro e w2 ⟨rfl, m, rfl⟩))
  all_goals
    obtain ⟨V, hV⟩ : ∃ V, V = set6 ((w1.alloc (.cells #[.int .i64 0, .int .i64 0, .bool false, .bool false, .bool false, .bool false] 46)).drewN (1 + m)) w1.heap.size (.int .i64 0) (.int .i64 (k.left : Int)) (.bool false) (.bool k.closed) (.bool k.ended) (.bool k.cut) := ⟨_, rfl⟩
    have vN : V.heap[w1.heap.size]? = some (.cells #[.int .i64 0, .int .i64 (k.left : Int), .bool false, .bool k.closed, .bool k.ended, .bool k.cut] 46 (0, 0)) := by rw [hV]; exact set6_at (W := (w1.alloc (.cells #[.int .i64 0, .int .i64 0, .bool false, .bool false, .bool false, .bool false] 46)).drewN (1 + m)) (heap_alloc_new w1 _)
    have vP : V.heap[y.pos i]? = w.heap[y.pos i]? := by rw [hV]; exact (set6_ne (Nat.ne_of_lt hltA) _ _ _ _ _ _).trans ((Below.heap_alloc w1 _ _ hltA).trans HA.out)
    have hBA : w.heap.size < w1.heap.size := by rw [HE.out]; simp
    have vB : V.heap[w.heap.size]? = some (.cells #[.int .i64 0, .int .i64 0, .bool false, .bool false, .bool false, .bool false] 46 (0, 0)) := by
      rw [hV]
      refine (set6_ne (Nat.ne_of_lt hBA) _ _ _ _ _ _).trans ((Below.heap_alloc w1 _ _ hBA).trans ?_)
      rw [HE.out]
      exact heap_alloc_new w _
    have VB : Hid (Below w.heap.size w V) := by
      rw [hV]
      refine lw6_below (Nat.le_of_lt hBA) ?_
      refine below_drewN ?_ _
      refine Below.alloc ?_ (Nat.le_of_lt hBA) _
      rw [HE.out]
      exact (Below.refl _ w).alloc (Nat.le_refl _) _
    have hV2 : V = set6 ((w1.drewN (1 + m)).alloc (.cells #[.int .i64 0, .int .i64 0, .bool false, .bool false, .bool false, .bool false] 46)) w1.heap.size (.int .i64 0) (.int .i64 (k.left : Int)) (.bool false) (.bool k.closed) (.bool k.ended) (.bool k.cut) := hV
    unfold set6 at hV hV2
    first | rw [← hV] | rw [← hV2]
    have H5 := hid_of (H4.out V vP)
    have H6 := hid_of (H3.out V vP)
    have u0 : V.cell? ⟨w1.heap.size, 0, none⟩ = some (.int .i64 0) := Lib.cell_of_heap vN 0
    have u1 : V.cell? ⟨w1.heap.size, 1, none⟩ = some (.int .i64 (k.left : Int)) := Lib.cell_of_heap vN 1
    have u2 : V.cell? ⟨w1.heap.size, 2, none⟩ = some (.bool false) := Lib.cell_of_heap vN 2
    have u3 : V.cell? ⟨w1.heap.size, 3, none⟩ = some (.bool k.closed) := Lib.cell_of_heap vN 3
    have u4 : V.cell? ⟨w1.heap.size, 4, none⟩ = some (.bool k.ended) := Lib.cell_of_heap vN 4
    have u5 : V.cell? ⟨w1.heap.size, 5, none⟩ = some (.bool k.cut) := Lib.cell_of_heap vN 5
    have g0 : V.frozen? ⟨w1.heap.size, 0, none⟩ = false := Lib.frozen_of_heap vN 0
    have t0 : V.cell? ⟨w.heap.size, 0, none⟩ = some (.int .i64 0) := Lib.cell_of_heap vB 0
    have t1 : V.cell? ⟨w.heap.size, 1, none⟩ = some (.int .i64 0) := Lib.cell_of_heap vB 1
    have t2 : V.cell? ⟨w.heap.size, 2, none⟩ = some (.bool false) := Lib.cell_of_heap vB 2
    have t3 : V.cell? ⟨w.heap.size, 3, none⟩ = some (.bool false) := Lib.cell_of_heap vB 3
    have t4 : V.cell? ⟨w.heap.size, 4, none⟩ = some (.bool false) := Lib.cell_of_heap vB 4
    have t5 : V.cell? ⟨w.heap.size, 5, none⟩ = some (.bool false) := Lib.cell_of_heap vB 5
    have hf : ∀ j, V.frozen? ⟨w.heap.size, j, none⟩ = false := fun j => Lib.frozen_of_heap vB j
    have hne : w.heap.size ≠ w1.heap.size := Nat.ne_of_lt hBA
    have hne2 : w1.heap.size ≠ w.heap.size := fun e => hne e.symm
    clear hV hV2 vN vP vB z1 z2 z3 z4 n2 n5 n6 d2 d5 d6 hltA
    obtain ⟨N, hN⟩ : ∃ N, N = w1.heap.size := ⟨_, rfl⟩
    rw [← hN] at u0 u1 u2 u3 u4 u5 g0 hne hne2 hBA ⊢
    have HBA := hid_of hBA
    clear hN hBA
    rename _ ∧ _ ∧ _ => hHeld
    clear hHeld
    obtain ⟨sh, hsh⟩ : ∃ sh, sh = (k.closed || k.cut) := ⟨_, rfl⟩
    have HL : Hid (lineC k = #[.int .i64 ((if sh then 0 else k.unread : Nat) : Int), .int .i64 (k.left : Int), .bool false, .bool k.closed, .bool k.ended, .bool k.cut]) := by rw [hsh]; rfl
    rw [← hsh] at H5
    clear hsh
    cases sh
    · go_wp2_with fail
      refine H5.out.mono ?_
      rintro e w3 ⟨rfl, rfl⟩
      go_wp2_with fail
      refine H6.out.mono ?_
      rintro e w4 ⟨rfl, m4, rfl⟩
      go_wp2_with fail
      refine bodyPost_ret (v := .tuple #[.agg (lineC k), .int .i64 0]) (by rw [HL.out]; simp [results, Try.results15, go_sem, t0, t1, t2, t3, t4, t5]) rfl ⟨rfl, ?_⟩
      exact below6 (below1 (below_drewN VB.out m4) (Nat.le_of_lt HBA.out) _) _ _ _ _ _ _
    · go_wp2_with fail
      refine H5.out.mono ?_
      rintro e w3 ⟨rfl, rfl⟩
      go_wp2_with fail
      refine bodyPost_ret (v := .tuple #[.agg (lineC k), .int .i64 0]) (by rw [HL.out]; simp [results, Try.results15, go_sem, t0, t1, t2, t3, t4, t5]) rfl ⟨rfl, ?_⟩
      exact below6 VB.out _ _ _ _ _ _
theorem line_call {F : Nat → Prop} {b : Nat} {y : Lay} {n : Nt} {w : World} (h : NK F b y n w) (c : Int) (hz : ∀ k, n.at c = some k → k.wrote.length ≤ 140737488355328 ∧ k.sent.length ≤ 140737488355328) :
    Calls Try.prog 15 #[ptr b, .int .i64 c] w fun e w' => e = .returned (.tuple #[lineV n c, .int .i64 (lineE n c)]) ∧ Below w.heap.size w w' := by
  rcases at_cases n c with ⟨h1, -⟩ | ⟨i, k, rfl, hi, hk, h1⟩
  · unfold lineV lineE
    rw [h1]
    exact line_none h h1
  · have := hz k h1
    unfold lineV lineE
    rw [h1]
    exact line_some h hk this.1 this.2
end Go.Proofs.Ythmfgnagpifnlaa.Line
