/- Connect. -/
import Derived.Test.YthmfgnagpifnlaaNet
namespace Go.Proofs.Ythmfgnagpifnlaa.Connect
open Go.RowKit
open Go.Proofs.Ythmfgnagpifnlaa.PipeMath
open Go.Proofs.Ythmfgnagpifnlaa.Base
open Go.Proofs.Ythmfgnagpifnlaa.Queue
open Go.Proofs.Ythmfgnagpifnlaa.Queue2
open Go.Proofs.Ythmfgnagpifnlaa.Drop
open Go.Proofs.Ythmfgnagpifnlaa.Net
set_option linter.unusedVariables false

set_option maxRecDepth 100000 in
theorem append_ptr (ty : Nat) (w : World) (v : Value) (n : Nat) (xs : List Value) (a0 : Nat) (u1 : Value) (h : w.ownsRow 0 73 1 v n xs) (hn : n < 1099511627776)
    (hs : w.heap[a0]? = some (.cells #[u1] 73 (0, 0))) (o1 : u1.oneCell' = true) :
    ∃ a c w', (Builtin.append_ #[53, 53] ty #[v, .slice (some ⟨a0, 0, none⟩) 1 1]).run Try.prog w = .ok (.slice a (n + 1) c) w' ∧ w'.ownsRow 0 73 1 (.slice a (n + 1) c) (n + 1) (xs ++ [u1]) ∧ w.grownBy w' v.ownBlock ∧ ∀ g, (Value.slice a (n + 1) c).ownBlock = some g → v.ownBlock = some g ∨ w.heap.size ≤ g := by
  obtain ⟨i, hi, hz0, hz1, hz2⟩ := parts info73
  have hnews : ∀ (j : Nat) u, [u1][j]? = some u → w.cell? ((⟨a0, 0, none⟩ : Addr).add j) = some u := fun j u hj => by
    rw [add_off, Nat.zero_add, Lib.cell_of_heap hs, ← hj]
    simp
  have h1 : ∀ u ∈ [u1], u.oneCell' = true := fun u hu => by
    simp only [List.mem_cons, List.not_mem_nil, or_false] at hu
    rcases hu with rfl
    assumption
  obtain ⟨v', w', hr, h2, h3, h4⟩ := run_append_own (P := Try.prog) w 0 53 ty 73 i _ 1 8 Try.underlying53 hi hz0 hz1 hz2 rfl (by decide) v n xs h ⟨a0, 0, none⟩ 1 1 [u1] rfl hnews h1 (by unfold maxLen; omega) (by omega) (Nat.zero_le _)
  obtain ⟨a, c, rfl⟩ := row_shape h2
  refine ⟨a, c, w', hr, h2, h3, ?_⟩
  rcases h.2 with ⟨rfl, hn0⟩ | ⟨g, cap, cur, rfl, hbg, hg, hnc, hcm, hcs, htake⟩
  · subst hn0
    have hx : xs = [] := List.length_eq_zero_iff.1 (by rw [h.1])
    subst hx
    obtain ⟨v2, w2, hr2, h5, _, _⟩ := run_append_own (P := Try.prog) w w.heap.size 53 ty 73 i _ 1 8 Try.underlying53 hi hz0 hz1 hz2 rfl (by decide) (.slice none 0 0) 0 [] (World.ownsRow_nil _ _ _ _) ⟨a0, 0, none⟩ 1 1 [u1] rfl hnews h1 (by unfold maxLen; omega) (by omega) (Nat.le_refl _)
    rw [hr] at hr2
    injection hr2 with e1 e2
    subst e1
    exact fun g hg => Or.inr (h5.lt g hg).1
  · by_cases hroom : n + 1 ≤ cap
    · have hr2 := run_append_room (P := Try.prog) w 53 ty 73 i Try.underlying53 hi g n cap cur hg ⟨a0, 0, none⟩ 1 1 [u1] (by rw [hz1]; rfl) hnews h1 hroom (by rw [hz1, hcs]; simp; omega)
      rw [hr] at hr2
      injection hr2 with e1 e2
      rw [e1]
      exact fun g hg => Or.inl hg
    · have hr2 := run_append_grow (P := Try.prog) w 53 ty 73 i _ Try.underlying53 hi hz0 ⟨g, 0, none⟩ n cap xs (by rw [hz1]; exact h.1) (h.cells (g := g) rfl) ⟨a0, 0, none⟩ 1 1 [u1] (by rw [hz1]; rfl) hnews (by omega) (by omega) (growslice_fits (by omega) (by rw [hz2]; omega))
      rw [hr] at hr2
      injection hr2 with e1 e2
      rw [e1]
      refine fun g2 hg2 => Or.inr ?_
      have e : w.heap.size = g2 := by simpa [Value.ownBlock] using hg2
      exact Nat.le_of_eq e
def Lay.more (y : Lay) (i N : Nat) (cv : Value) : Lay := ⟨cv, fun j => if j = i then N else y.pos j, fun j p => if j = i then .slice none 0 0 else y.tv j p⟩
def wB (w : World) : World := (w.alloc (.cells (cnCells (.slice none 0 0) (.slice none 0 0) cn0) 82)).alloc (.cells #[ptr w.heap.size] 73)
theorem wB_below (w : World) : Below w.heap.size w (wB w) := ((Below.refl _ w).alloc (Nat.le_refl _) _).alloc (by simp) _
theorem wB_size (w : World) : (wB w).heap.size = w.heap.size + 2 := by simp [wB]
/- the network with one connection more -/
theorem NK.more {F : Nat → Prop} {b : Nat} {y : Lay} {n : Nt} {w w' : World} (h : NK F b y n w) (hl : n.cs.length < 1024) {cv : Value}
    (hg : (wB w).grownBy w' y.cv.ownBlock) (hrow : w'.ownsRow 0 73 1 cv (n.cs.length + 1) (((List.range n.cs.length).map fun i => ptr (y.pos i)) ++ [ptr w.heap.size])) (hnew : ∀ g, cv.ownBlock = some g → y.cv.ownBlock = some g ∨ w.heap.size ≤ g) :
    NK (Gr F w) b (Lay.more y n.cs.length w.heap.size cv) { n with cs := n.cs ++ [cn0] } (w'.setCell ⟨b, 1, none⟩ cv) ∧ w'.heap[b]? = some (.cells #[.int .i64 n.win, y.cv, .int .i64 n.acc] 55 (0, 0)) ∧ Fr F w (w'.setCell ⟨b, 1, none⟩ cv) := by
  have bB := wB_below w
  have hk : ∀ k, k < w.heap.size → y.cv.ownBlock ≠ some k → w'.heap[k]? = w.heap[k]? := fun k hk hne => (hg.block k (Nat.lt_of_lt_of_le hk bB.size) (fun e => hne e.symm)).trans (bB.block k hk)
  have hkind : ∀ {j : Nat} {c : Array Value} {t : TypeId} {f : Nat × Nat}, w.heap[j]? = some (.cells c t f) → t ≠ 73 → w'.heap[j]? = w.heap[j]? := fun hj ht => hk _ (lt_of hj) (fun e => by
    obtain ⟨cur, hc⟩ := row_kd h.row e
    exact kinds hj hc ht rfl)
  have hnet : w'.heap[b]? = some (.cells #[.int .i64 n.win, y.cv, .int .i64 n.acc] 55 (0, 0)) := (hkind h.net (by decide)).trans h.net
  have hset : ∀ {j : Nat} {c : Array Value} {t : TypeId} {f : Nat × Nat}, w.heap[j]? = some (.cells c t f) → t ≠ 73 → t ≠ 55 → (w'.setCell ⟨b, 1, none⟩ cv).heap[j]? = w.heap[j]? := fun hj ht ht2 => (set_ne (kinds ((hkind hj ht).trans hj) hnet ht2) _).trans (hkind hj ht)
  have hN : (w'.setCell ⟨b, 1, none⟩ cv).heap[w.heap.size]? = some (.cells (cnCells (.slice none 0 0) (.slice none 0 0) cn0) 82 (0, 0)) := by
    have e1 : w'.heap[w.heap.size]? = some (.cells (cnCells (.slice none 0 0) (.slice none 0 0) cn0) 82 (0, 0)) := by
      have h1 : (wB w).heap[w.heap.size]? = some (.cells (cnCells (.slice none 0 0) (.slice none 0 0) cn0) 82 (0, 0)) := by
        unfold wB
        rw [Below.heap_alloc _ _ w.heap.size (by simp)]
        exact heap_alloc_new w _
      rw [← h1]
      refine hg.block _ (by rw [wB_size]; omega) (fun e => ?_)
      obtain ⟨cur, hc⟩ := row_kd h.row e.symm
      have := lt_of hc
      omega
    rw [set_ne (fun e => by have := lt_of h.net; omega)]
    exact e1
  have hrs : ∀ {e sz m : Nat} {v : Value} {xs : List Value}, w.ownsRow 0 e sz v m xs → e ≠ 73 → e ≠ 55 → ∀ g, v.ownBlock = some g → (w'.setCell ⟨b, 1, none⟩ cv).heap[g]? = w.heap[g]? := fun hrow he he2 g hg => by
    obtain ⟨cur, hc⟩ := row_kd hrow hg
    exact hset hc he he2
  have up : ∀ k, F k → Gr F w k := fun k e => Or.inl e
  have hlen : ({ n with cs := n.cs ++ [cn0] } : Nt).cs.length = n.cs.length + 1 := by simp
  have pos_old : ∀ j, j < n.cs.length → (Lay.more y n.cs.length w.heap.size cv).pos j = y.pos j := fun j hj => if_neg (by omega)
  have tv_old : ∀ j p, j < n.cs.length → (Lay.more y n.cs.length w.heap.size cv).tv j p = y.tv j p := fun j p hj => if_neg (by omega)
  have pos_new : (Lay.more y n.cs.length w.heap.size cv).pos n.cs.length = w.heap.size := if_pos rfl
  have tv_new : ∀ p, (Lay.more y n.cs.length w.heap.size cv).tv n.cs.length p = .slice none 0 0 := fun p => if_pos rfl
  have poslt : ∀ j, j < n.cs.length → y.pos j < w.heap.size := fun j hj => lt_of (h.fl j _ (List.getElem?_eq_getElem hj)).blk
  refine ⟨⟨set_at hnet _, ?_, up _ h.own, fun g e => ?_, fun i k hi => ?_, fun i j hi hj e => ?_, fun i p j q g hi hj hne e => ?_, ?_⟩, hnet, ?_⟩
  · rw [hlen, List.range_succ, List.map_append]
    have e1 : (List.range n.cs.length).map (fun i => ptr ((Lay.more y n.cs.length w.heap.size cv).pos i)) = (List.range n.cs.length).map (fun i => ptr (y.pos i)) := List.map_congr_left fun j hj => by rw [pos_old j (List.mem_range.1 hj)]
    rw [e1]
    show (w'.setCell ⟨b, 1, none⟩ cv).ownsRow 0 73 1 cv (n.cs.length + 1) (_ ++ [ptr ((Lay.more y n.cs.length w.heap.size cv).pos n.cs.length)])
    rw [pos_new]
    refine row_later hrow fun g hg2 => set_ne ?_ _
    obtain ⟨cur, hc⟩ := row_kd hrow hg2
    exact kinds hc hnet (by decide)
  · rcases hnew g e with e1 | e1
    · exact up _ (h.rown g e1)
    · exact Or.inr e1
  · by_cases hi2 : i < n.cs.length
    · rw [show ({ n with cs := n.cs ++ [cn0] } : Nt).cs = n.cs ++ [cn0] from rfl, List.getElem?_append_left hi2] at hi
      have q := h.fl i k hi
      rw [pos_old i hi2, tv_old i _ hi2, tv_old i _ hi2]
      exact cn_later q (hset q.blk (by decide) (by decide)) (hrs q.inr (by decide) (by decide)) (hrs q.outr (by decide) (by decide)) up
    · have hil := (List.getElem?_eq_some_iff.1 hi).1
      rw [hlen] at hil
      obtain rfl : i = n.cs.length := by omega
      rw [show ({ n with cs := n.cs ++ [cn0] } : Nt).cs = n.cs ++ [cn0] from rfl, List.getElem?_append_right (Nat.le_refl _), Nat.sub_self] at hi
      injection hi with hi
      subst hi
      rw [pos_new, tv_new, tv_new]
      exact ⟨hN, World.ownsRow_nil _ _ _ _, World.ownsRow_nil _ _ _ _, Or.inr (Nat.le_refl _), fun g e => by simp [Value.ownBlock] at e, fun g e => by simp [Value.ownBlock] at e⟩
  · rw [hlen] at hi hj
    by_cases hi2 : i < n.cs.length
    · by_cases hj2 : j < n.cs.length
      · rw [pos_old i hi2, pos_old j hj2] at e
        exact h.inj i j hi2 hj2 e
      · obtain rfl : j = n.cs.length := by omega
        rw [pos_old i hi2, pos_new] at e
        have := poslt i hi2
        omega
    · obtain rfl : i = n.cs.length := by omega
      by_cases hj2 : j < n.cs.length
      · rw [pos_old j hj2, pos_new] at e
        have := poslt j hj2
        omega
      · omega
  · rw [hlen] at hi hj
    by_cases hi2 : i < n.cs.length
    · rw [tv_old i p hi2] at e
      by_cases hj2 : j < n.cs.length
      · rw [tv_old j q hj2]
        exact h.apart i p j q g hi2 hj2 hne e
      · obtain rfl : j = n.cs.length := by omega
        rw [tv_new]
        simp [Value.ownBlock]
    · obtain rfl : i = n.cs.length := by omega
      rw [tv_new] at e
      simp [Value.ownBlock] at e
  · have := connect_ok h.ok
    unfold Nt.connect at this
    rw [if_neg (by omega)] at this
    exact this
  · have f1 : Fr F w w' := (Fr.of_below bB).trans (Fr.grown hg fun k e => Or.inl (h.rown k e))
    exact f1.trans (Fr.set (Or.inl h.own) _)
set_option maxHeartbeats 1000000 in
set_option maxRecDepth 100000 in
theorem connect_call {F : Nat → Prop} {b : Nat} {y : Lay} {n : Nt} {w : World} (h : NK F b y n w) : Calls Try.prog 12 #[ptr b] w fun e w' => e = .returned (.tuple #[.int .i64 n.connect.2.1, .int .i64 n.connect.2.2]) ∧ Has (Gr F w) b n.connect.1 w' ∧ Fr F w w' := by
  have c1 : w.cell? ⟨b, 1, none⟩ = some y.cv := h.cell 1
  by_cases he : 1024 ≤ n.cs.length
  · have e1 : n.connect = (n, 0, 60) := by unfold Nt.connect; rw [if_pos he]
    rw [e1]
    obtain ⟨a, cp, hv⟩ := row_shape h.row
    rw [hv] at c1
    have g1 : (1024 : Int) ≤ (n.cs.length : Int) := by omega
    have H := hid_of h
    clear h hv e1 he
    go_enter Try.func12, Try.ntmps12
    go_wp2_with fail
    go_ret2
    exact ⟨rfl, ⟨y, H.out.mono fun _ e => Or.inl e⟩, Fr.refl _ _⟩
  · have e1 : n.connect = ({ n with cs := n.cs ++ [cn0] }, (n.cs.length : Int), 0) := by unfold Nt.connect; rw [if_neg he]
    rw [e1]
    obtain ⟨a, c, w', hr, hrow, hg, hnew⟩ := append_ptr 53 (wB w) y.cv n.cs.length _ (w.heap.size + 1) (ptr w.heap.size) ((h.below (wB_below w)).row) (by omega) (by
      have := heap_alloc_new (w.alloc (.cells (cnCells (.slice none 0 0) (.slice none 0 0) cn0) 82)) (.cells #[ptr w.heap.size] 73)
      rw [show (w.alloc (.cells (cnCells (.slice none 0 0) (.slice none 0 0) cn0) 82)).heap.size = w.heap.size + 1 by simp] at this
      exact this) rfl
    obtain ⟨hn2, hnet, hfr⟩ := NK.more h (by omega) hg hrow (fun g e => by
      rcases hnew g e with e1 | e1
      · exact Or.inl e1
      · right; rw [wB_size] at e1; omega)
    have HN := hid_of (And.intro hn2 hfr)
    have HB := hid_of (wB_below w)
    have d1 : w'.cell? ⟨b, 1, none⟩ = some y.cv := Lib.cell_of_heap hnet 1
    have f1 : w'.frozen? ⟨b, 1, none⟩ = false := Lib.frozen_of_heap hnet 1
    obtain ⟨a0, cp, hv⟩ := row_shape h.row
    rw [hv] at c1 hr d1
    have g1 : ¬ (1024 : Int) ≤ (n.cs.length : Int) := by omega
    clear h hv e1 he hn2 hnet hfr hrow hg hnew
    go_enter Try.func12, Try.ntmps12
    have hr2 : (Builtin.append_ #[53, 53] 53 #[.slice a0 n.cs.length cp, .slice (some ⟨w.heap.size + 1, 0, none⟩) 1 1]).run Try.prog ((w.alloc (.cells #[.slice none 0 0, .int .i64 0, .bool false, .slice none 0 0, .int .i64 0, .bool false, .bool false] 82)).alloc (.cells #[.pointer (some ⟨w.heap.size, 0, none⟩)] 73)) = .ok (.slice a (n.cs.length + 1) c) w' := hr
    have HR := hid_of hr2
    clear hr hr2
    go_wp2_with (at_builtin; refine wpl_eq rfl _ _ 53 53 rfl (.slice a0 n.cs.length cp) (.slice (some ⟨w.heap.size + 1, 0, none⟩) 1 1) (.slice a (n.cs.length + 1) c) ((w.alloc (.cells #[.slice none 0 0, .int .i64 0, .bool false, .slice none 0 0, .int .i64 0, .bool false, .bool false] 82)).alloc (.cells #[.pointer (some ⟨w.heap.size, 0, none⟩)] 73)) w' rfl rfl HR.out ?_)
    go_wp2_with fail
    go_ret2
    exact ⟨rfl, ⟨_, HN.out.1⟩, HN.out.2⟩
end Go.Proofs.Ythmfgnagpifnlaa.Connect
