/- Values whose rows may be written over: what stands beside them. -/
import Derived.Test.YtdcnkdkhanmklabAppG
import Derived.Test.YtdcnkdkhanmklabKept
namespace Go.Proofs.Ytdcnkdkhanmklab.SpoilM
open Go.RowKit Go.Maps
open Go.Proofs.Ytdcnkdkhanmklab.SetMath
open Go.Proofs.Ytdcnkdkhanmklab.ValueMath
open Go.Proofs.Ytdcnkdkhanmklab.Base
open Go.Proofs.Ytdcnkdkhanmklab.Vals
open Go.Proofs.Ytdcnkdkhanmklab.Spare
set_option linter.unusedVariables false
set_option linter.unusedSimpArgs false
/- append of one entry to a row of one's own, and where the new row lies -/
theorem app_own {w : World} (t e : TypeId) (i : TypeInfo) (z : Value) (size bytes : Nat) (ht : Try.prog.underlying t = some (.slice e)) (hi : Try.prog.info? e = some i) (hz : i.zero = some z)
    (hsize : i.size = size) (hby : i.bytes = bytes) (hzs : z.cells.size = size) (hsz : 0 < size) {v : Value} {n : Nat} {xs : List Value} (hown : w.ownsRow 0 e size v n xs)
    (a : Addr) (c : Nat) (news : List Value) (hl : news.length = 1 * size) (hnews : ∀ j u, news[j]? = some u → w.cell? (a.add j) = some u) (h1 : ∀ u ∈ news, u.oneCell' = true)
    (h63 : n + 1 ≤ maxLen) (hbytes : ((n + 1) + (n + 1) / 4 + 192) * bytes ≤ 281474976710656) :
    ∃ v' w', (Builtin.append_ #[t, t] t #[v, .slice (some a) 1 c]).run Try.prog w = .ok v' w' ∧ w'.ownsRow 0 e size v' (n + 1) (xs ++ news) ∧ w.grownBy w' v.ownBlock ∧ ∀ k, v'.ownBlock = some k → w.heap.size ≤ k ∨ v.ownBlock = some k := by
  obtain ⟨v', w', hr, ho, hg, _⟩ := run_append_own_wide (P := Try.prog) w 0 t t e i z size bytes ht hi hz hsize hby hzs hsz v n xs hown a 1 c news hl hnews h1 h63 hbytes (Nat.zero_le _)
  refine ⟨v', w', hr, ho, hg, fun k hk => ?_⟩
  have hsmall : n + 1 ≤ 9223372036854775807 := by simp only [maxLen] at h63; omega
  subst hsize
  subst hby
  rcases hown.2 with ⟨rfl, rfl⟩ | ⟨g, cap, cur, rfl, hbg, hgc, hnc, hcm, hcs, htake⟩
  · have h2 := run_append_nil (P := Try.prog) w t t e i z ht hi hz a 1 c news hl hnews (by omega) (by omega) (by have hb := hbytes; simp only [Nat.zero_add] at hb; exact Nat.le_trans (Nat.mul_le_mul_right _ (by omega)) hb)
    rw [hr] at h2
    injection h2 with h3 h4
    rw [h3] at hk
    left
    simp [Value.ownBlock] at hk
    omega
  · by_cases hroom : n + 1 ≤ cap
    · have hfit : n * i.size + news.length ≤ cur.size := by rw [hl, hcs, ← Nat.add_mul]; exact Nat.mul_le_mul_right _ hroom
      have h2 := run_append_room (P := Try.prog) w t t e i ht hi g n cap cur hgc a 1 c news hl hnews h1 hroom hfit
      rw [hr] at h2
      injection h2 with h3 h4
      rw [h3] at hk
      right
      simpa [Value.ownBlock] using hk
    · have holds : ∀ j u, xs[j]? = some u → w.cell? ((⟨g, 0, none⟩ : Addr).add j) = some u := hown.cells (g := g) rfl
      have h2 := run_append_grow (P := Try.prog) w t t e i z ht hi hz ⟨g, 0, none⟩ n cap xs hown.1 holds a 1 c news hl hnews (by omega) (by omega) (growslice_fits_wide (by omega) hbytes)
      rw [hr] at h2
      injection h2 with h3 h4
      rw [h3] at hk
      left
      simp [Value.ownBlock] at hk
      omega
/- rows of structs -/
abbrev RW (e : TypeId) (v : Value) (n : Nat) (w : World) : Prop := ∃ xs, w.ownsRow 0 e 2 v n xs
theorem rw_keep {e : TypeId} {v : Value} {n : Nat} {w w' : World} (h : RW e v n w) (hk : ∀ k cur, v.ownBlock = some k → w.heap[k]? = some (.cells cur e (0, 0)) → w'.heap[k]? = w.heap[k]?) : RW e v n w' := by
  obtain ⟨xs, h1, h2⟩ := h
  refine ⟨xs, h1, h2.imp id ?_⟩
  rintro ⟨g, cap, cur, rfl, hb, hg, r⟩
  exact ⟨g, cap, cur, rfl, hb, (hk g cur rfl hg).trans hg, r⟩
theorem rw_set {e : TypeId} {g n c : Nat} {w : World} (h : RW e (.slice (some ⟨g, 0, none⟩) n c) n w) (j : Nat) (y : Value) : RW e (.slice (some ⟨g, 0, none⟩) n c) n (w.setCell ⟨g, j, none⟩ y) := by
  obtain ⟨xs, h1, h2⟩ := h
  rcases h2 with ⟨q, _⟩ | ⟨g', cap, cur, q, hb, hg, q1, q2, q3, q4⟩
  · cases q
  · injection q with e1 _ e3
    injection e1 with e1
    injection e1 with e1
    subst e1 e3
    refine ⟨((cur.setIfInBounds j y).toList.take (n * 2)), ?_, .inr ⟨g, c, _, rfl, hb, set_at hg y, q1, q2, by rw [Array.size_setIfInBounds]; exact q3, rfl⟩⟩
    rw [List.length_take, Array.length_toList, Array.size_setIfInBounds, q3]
    omega
theorem rw_get {e : TypeId} {n i c : Nat} {a : Option Addr} {w : World} (h : RW e (.slice a n c) n w) (hi : i < n) : ∃ g cur, a = some ⟨g, 0, none⟩ ∧ w.heap[g]? = some (.cells cur e (0, 0)) ∧ (∃ y, w.cell? ⟨g, i * 2, none⟩ = some y) ∧ (∃ y, w.cell? ⟨g, i * 2 + 1, none⟩ = some y) ∧ ∀ j, w.frozen? ⟨g, j, none⟩ = false := by
  obtain ⟨xs, h1, h2⟩ := h
  rcases h2 with ⟨q, h0⟩ | ⟨g, cap, cur, q, hb, hg, q1, q2, q3, q4⟩
  · omega
  · injection q with e1 _ e3
    subst e1 e3
    have hlt : i * 2 + 1 < cur.size := by rw [q3]; omega
    exact ⟨g, cur, rfl, hg, ⟨cur[i * 2], by rw [Lib.cell_of_heap hg]; exact Array.getElem?_eq_getElem (by omega)⟩, ⟨cur[i * 2 + 1], by rw [Lib.cell_of_heap hg]; exact Array.getElem?_eq_getElem (by omega)⟩, fun j => Lib.frozen_of_heap hg j⟩
/- rows of texts -/
abbrev RT (v : Value) (n : Nat) (w : World) : Prop := ∃ l : List El, l.length = n ∧ NR 0 w v l
theorem rt_keep {v : Value} {n : Nat} {w w' : World} (h : RT v n w) (hk : ∀ k cur, v.ownBlock = some k → w.heap[k]? = some (.cells cur 9 (0, 0)) → w'.heap[k]? = w.heap[k]?) : RT v n w' := by
  obtain ⟨l, h1, h2⟩ := h
  refine ⟨l, h1, ?_⟩
  rcases h2 with h2 | ⟨g, c, cur, rfl, hB, hr, r⟩
  · exact .inl h2
  · exact .inr ⟨g, c, cur, rfl, hB, (hk g cur rfl hr).trans hr, r⟩
theorem rt_get {n i c : Nat} {a : Option Addr} {w : World} (h : RT (.slice a n c) n w) (hi : i < n) : ∃ g cur, a = some ⟨g, 0, none⟩ ∧ w.heap[g]? = some (.cells cur 9 (0, 0)) ∧ (∃ y, w.cell? ⟨g, i, none⟩ = some y) ∧ w.frozen? ⟨g, i, none⟩ = false ∧ ∀ x : El, RT (.slice a n c) n (w.setCell ⟨g, i, none⟩ (V x)) := by
  obtain ⟨l, h1, h2⟩ := h
  rcases h2 with ⟨_, h0⟩ | ⟨g, c', cur, q, hB, hr, hx, hl, ht⟩
  · rw [h0] at h1; simp at h1; omega
  · injection q with e1 _ e3
    subst e1 e3
    have hlt : i < cur.size := by omega
    refine ⟨g, cur, rfl, hr, ⟨cur[i], by rw [Lib.cell_of_heap hr]; exact Array.getElem?_eq_getElem hlt⟩, Lib.frozen_of_heap hr i, fun x => ⟨l.set i x, by rw [List.length_set]; exact h1, .inr ⟨g, c, _, by rw [List.length_set, h1], Nat.zero_le _, set_at hr (V x), by rw [Array.size_setIfInBounds]; exact hx, by rw [List.length_set]; exact hl, ?_⟩⟩⟩
    rw [List.length_set, Array.toList_setIfInBounds, List.take_set, ht, List.map_set]
structure Sw (P : Nat → Prop) (W0 : World) (v1 v2 v3 : Value) (n1 n2 n3 : Nat) (w : World) : Prop where
  fr : Fr P W0 w
  l : RT v1 n1 w
  f : RW 38 v2 n2 w
  r : RW 40 v3 n3 w
  o1 : ∀ k, v1.ownBlock = some k → Gr P W0 k
  o2 : ∀ k, v2.ownBlock = some k → Gr P W0 k
  o3 : ∀ k, v3.ownBlock = some k → Gr P W0 k
section
variable {P : Nat → Prop} {W0 w w' : World} {v1 v2 v3 : Value} {n1 n2 n3 : Nat}
/- one block of one type has turned -/
theorem ne_of {w : World} {a b : Nat} {c c' : Array Value} {t u : TypeId} (h : w.heap[a]? = some (.cells c t (0, 0))) (h' : w.heap[b]? = some (.cells c' u (0, 0))) (ht : t ≠ u) : a ≠ b := by
  rintro rfl
  rw [h] at h'
  injection h' with h'
  injection h' with _ h'
  exact ht h'
theorem Sw.set1 {a : Option Addr} {c i : Nat} (h : Sw P W0 (.slice a n1 c) v2 v3 n1 n2 n3 w) (hi : i < n1) : ∃ g, a = some ⟨g, 0, none⟩ ∧ (∃ y, w.cell? ⟨g, i, none⟩ = some y) ∧ w.frozen? ⟨g, i, none⟩ = false ∧ ∀ x : El, Sw P W0 (.slice a n1 c) v2 v3 n1 n2 n3 (w.setCell ⟨g, i, none⟩ (V x)) := by
  obtain ⟨g, cur, rfl, hg, hc, hz, hs⟩ := rt_get h.l hi
  refine ⟨g, rfl, hc, hz, fun x => ⟨h.fr.trans (Fr.set (h.o1 g rfl) _), hs x, rw_keep h.f fun k cur' _ hk => set_ne (ne_of hk hg (by decide)) _, rw_keep h.r fun k cur' _ hk => set_ne (ne_of hk hg (by decide)) _, h.o1, h.o2, h.o3⟩⟩
theorem Sw.set2 {a : Option Addr} {c i : Nat} (h : Sw P W0 v1 (.slice a n2 c) v3 n1 n2 n3 w) (hi : i < n2) : ∃ g, a = some ⟨g, 0, none⟩ ∧ (∃ y, w.cell? ⟨g, i * 2, none⟩ = some y) ∧ (∃ y, w.cell? ⟨g, i * 2 + 1, none⟩ = some y) ∧ (∀ j, w.frozen? ⟨g, j, none⟩ = false) ∧ ∀ x y : Value, Sw P W0 v1 (.slice a n2 c) v3 n1 n2 n3 ((w.setCell ⟨g, i * 2, none⟩ x).setCell ⟨g, i * 2 + 1, none⟩ y) := by
  obtain ⟨g, cur, rfl, hg, hc, hd, hz⟩ := rw_get h.f hi
  refine ⟨g, rfl, hc, hd, hz, fun x y => ⟨(h.fr.trans (Fr.set (h.o2 g rfl) _)).trans (Fr.set (h.o2 g rfl) _), rt_keep h.l fun k cur' _ hk => (set_ne (ne_of hk hg (by decide)) _).trans (set_ne (ne_of hk hg (by decide)) _), rw_set (rw_set h.f _ _) _ _, rw_keep h.r fun k cur' _ hk => (set_ne (ne_of hk hg (by decide)) _).trans (set_ne (ne_of hk hg (by decide)) _), h.o1, h.o2, h.o3⟩⟩
theorem Sw.set3 {a : Option Addr} {c i : Nat} (h : Sw P W0 v1 v2 (.slice a n3 c) n1 n2 n3 w) (hi : i < n3) : ∃ g, a = some ⟨g, 0, none⟩ ∧ (∃ y, w.cell? ⟨g, i * 2, none⟩ = some y) ∧ (∃ y, w.cell? ⟨g, i * 2 + 1, none⟩ = some y) ∧ (∀ j, w.frozen? ⟨g, j, none⟩ = false) ∧ ∀ x y : Value, Sw P W0 v1 v2 (.slice a n3 c) n1 n2 n3 ((w.setCell ⟨g, i * 2, none⟩ x).setCell ⟨g, i * 2 + 1, none⟩ y) := by
  obtain ⟨g, cur, rfl, hg, hc, hd, hz⟩ := rw_get h.r hi
  refine ⟨g, rfl, hc, hd, hz, fun x y => ⟨(h.fr.trans (Fr.set (h.o3 g rfl) _)).trans (Fr.set (h.o3 g rfl) _), rt_keep h.l fun k cur' _ hk => (set_ne (ne_of hk hg (by decide)) _).trans (set_ne (ne_of hk hg (by decide)) _), rw_keep h.f fun k cur' _ hk => (set_ne (ne_of hk hg (by decide)) _).trans (set_ne (ne_of hk hg (by decide)) _), rw_set (rw_set h.r _ _) _ _, h.o1, h.o2, h.o3⟩⟩
theorem Sw.fr' (h : Sw P W0 v1 v2 v3 n1 n2 n3 w) (b : Below w.heap.size w w') : Sw P W0 v1 v2 v3 n1 n2 n3 w' :=
  ⟨h.fr.trans (Fr.of_below b), rt_keep h.l fun k cur _ hk => b.block k (lt_of hk), rw_keep h.f fun k cur _ hk => b.block k (lt_of hk), rw_keep h.r fun k cur _ hk => b.block k (lt_of hk), h.o1, h.o2, h.o3⟩
theorem Sw.drewN (h : Sw P W0 v1 v2 v3 n1 n2 n3 w) (n : Nat) : Sw P W0 v1 v2 v3 n1 n2 n3 (w.drewN n) := h.fr' (bel_drewN w n)
theorem own_of {v : Value} {k n c : Nat} (h : v = .slice (some ⟨k, 0, none⟩) n c) : v.ownBlock = some k := by rw [h]; rfl
theorem sw_app1 (h : Sw P W0 v1 v2 v3 n1 n2 n3 w) (x : El) (hb : n1 * 16 ≤ 140737488355328) :
    ∃ a c w', (Builtin.append_ #[22, 22] 22 #[v1, .slice (some ⟨w.heap.size, 0, none⟩) 1 1]).run Try.prog (w.alloc (.cells #[V x] 9)) = .ok (.slice a (n1 + 1) c) w' ∧ Sw P W0 (.slice a (n1 + 1) c) v2 v3 (n1 + 1) n2 n3 w' := by
  have b1 := FRow.bnew w (.cells #[V x] 9)
  have h' := h.fr' b1
  have hm : Rd (fun _ => True) (w.alloc (.cells #[V x] 9)) (some ⟨w.heap.size, 0, none⟩) [x] := by
    refine .inr ⟨w.heap.size, 0, rfl, trivial, fun j y hj => ?_⟩
    rw [Lib.cell_of_heap (heap_alloc_new w _)]
    cases j with
    | zero => simp at hj; subst hj; rfl
    | succ j => simp at hj
  obtain ⟨l, hl, hn⟩ := h'.l
  obtain ⟨v', w', e1, e2, e3, e4, e5⟩ := AppG.app_fr (c := 1) hn hm (.inr ⟨rfl, by rw [hl]; exact hb⟩) (Nat.zero_le _) 22
  have hlen : (l ++ [x]).length = n1 + 1 := by rw [List.length_append, hl]; rfl
  obtain ⟨a, c, rfl, _⟩ := e2.shape
  rw [hlen] at e1 e2 e5
  have hown : ∀ k, (Value.slice a (n1 + 1) c).ownBlock = some k → Gr P W0 k := fun k hk => by
    rcases e2 with ⟨q, _⟩ | ⟨g, c', cur, q, _⟩
    · rw [q] at hk; cases hk
    · rw [q] at hk
      injection hk with hk
      have hkg : g = k := hk
      subst hkg
      rcases e5 g _ _ (by rw [q, hlen]) with h5 | ⟨n', c'', h5⟩
      · exact .inr (by have := h'.fr.size; omega)
      · exact h'.o1 g (own_of h5)
  have hst : ∀ (k : Nat) (cur : Array Value) (t : TypeId), t ≠ 9 → (w.alloc (.cells #[V x] 9)).heap[k]? = some (Obj.cells cur t (0, 0)) → w'.heap[k]? = (w.alloc (.cells #[V x] 9)).heap[k]? := fun k cur t ht hk => e4 k (lt_of hk) fun g n c hv => by
    rcases hn with ⟨q, _⟩ | ⟨g', c', cur', q, _, hr, _⟩
    · rw [q] at hv; cases hv
    · rw [q] at hv
      injection hv with hv
      injection hv with hv
      injection hv with hv
      subst hv
      exact ne_of hk hr ht
  refine ⟨a, c, w', e1, ⟨h'.fr.trans ⟨e3.os, e3.tape, e3.output, by have := e3.size; exact this, fun k hk hno => e4 k hk fun g n c hv e => hno (by rw [e]; exact h'.o1 g (own_of hv))⟩, ⟨_, hlen, e2⟩, rw_keep h'.f fun k cur _ hk => hst k cur _ (by decide) hk, rw_keep h'.r fun k cur _ hk => hst k cur _ (by decide) hk, hown, h'.o2, h'.o3⟩⟩
theorem grown_fr {v : Value} {b c : World} (hg : b.grownBy c v.ownBlock) (ho : ∀ k, v.ownBlock = some k → Gr P W0 k) : Fr (Gr P W0) b c := ⟨hg.os, hg.tape, hg.output, hg.size, fun k hk hno => hg.block k hk fun e => hno (ho k e.symm)⟩
theorem own_ty {e : TypeId} {v : Value} {n : Nat} {w : World} {k : Nat} (h : RW e v n w) (hk : v.ownBlock = some k) : ∃ cur, w.heap[k]? = some (.cells cur e (0, 0)) := by
  obtain ⟨xs, _, h2⟩ := h
  rcases h2 with ⟨rfl, _⟩ | ⟨g, cap, cur, rfl, hb, hg, r⟩
  · cases hk
  · injection hk with hk
    have hkg : g = k := hk
    subst hkg
    exact ⟨cur, hg⟩
theorem grown_st {e t : TypeId} {v : Value} {n : Nat} {b c : World} (h : RW e v n b) (hg : b.grownBy c v.ownBlock) (ht : t ≠ e) {k : Nat} {cur : Array Value} (hk : b.heap[k]? = some (.cells cur t (0, 0))) : c.heap[k]? = b.heap[k]? := hg.block k (lt_of hk) fun q => by
  obtain ⟨cur', h2⟩ := own_ty h q.symm
  exact ne_of hk h2 ht rfl
theorem sw_app2 (h : Sw P W0 v1 v2 v3 n1 n2 n3 w) (x y : Bs) (hb : n2 + 1 ≤ FRow.big) :
    ∃ a c w', (Builtin.append_ #[23, 23] 23 #[v2, .slice (some ⟨w.heap.size, 0, none⟩) 1 1]).run Try.prog (w.alloc (.cells #[.string (mk x), .string (mk y)] 38)) = .ok (.slice a (n2 + 1) c) w' ∧ Sw P W0 v1 (.slice a (n2 + 1) c) v3 n1 (n2 + 1) n3 w' := by
  have b1 := FRow.bnew w (.cells #[.string (mk x), .string (mk y)] 38)
  have h' := h.fr' b1
  obtain ⟨xs, hx⟩ := h'.f
  obtain ⟨i, hi, hz0, hz1, hz2⟩ := FRow.parts_of FRow.info_sc
  obtain ⟨v', w', e1, e2, e3, e4⟩ := app_own 23 38 i _ 2 32 Try.underlying23 hi hz0 hz1 hz2 rfl (by decide) hx ⟨w.heap.size, 0, none⟩ 1 [.string (mk x), .string (mk y)] rfl (fun j u hj => by
      rw [add_off, Lib.cell_of_heap (heap_alloc_new w _), Nat.zero_add]
      match j, hj with
      | 0, hj => exact hj
      | 1, hj => exact hj) (by intro u hu; simp at hu; rcases hu with rfl | rfl <;> rfl) (by unfold maxLen; unfold FRow.big at hb; omega) (by unfold FRow.big at hb; omega)
  obtain ⟨a, c, rfl⟩ : ∃ a c, v' = .slice a (n2 + 1) c := by
    rcases e2.2 with ⟨_, q⟩ | ⟨g, cap, cur, rfl, _⟩
    · omega
    · exact ⟨_, _, rfl⟩
  exact ⟨a, c, w', e1, ⟨h'.fr.trans (grown_fr e3 h'.o2), rt_keep h'.l fun k cur _ hk => grown_st h'.f e3 (by decide) hk, ⟨_, e2⟩, rw_keep h'.r fun k cur _ hk => grown_st h'.f e3 (by decide) hk, h'.o1, fun k hk => by
    rcases e4 k hk with q | q
    · exact .inr (by have := h'.fr.size; omega)
    · exact h'.o2 k q, h'.o3⟩⟩
theorem sw_app3 (h : Sw P W0 v1 v2 v3 n1 n2 n3 w) (x : Bs) (y : Int) (hb : n3 + 1 ≤ ERow.big) :
    ∃ a c w', (Builtin.append_ #[24, 24] 24 #[v3, .slice (some ⟨w.heap.size, 0, none⟩) 1 1]).run Try.prog (w.alloc (.cells #[.string (mk x), .int .i64 y] 40)) = .ok (.slice a (n3 + 1) c) w' ∧ Sw P W0 v1 v2 (.slice a (n3 + 1) c) n1 n2 (n3 + 1) w' := by
  have b1 := FRow.bnew w (.cells #[.string (mk x), .int .i64 y] 40)
  have h' := h.fr' b1
  obtain ⟨xs, hx⟩ := h'.r
  obtain ⟨i, hi, hz0, hz1, hz2⟩ := ERow.parts_of ERow.info_sc
  obtain ⟨v', w', e1, e2, e3, e4⟩ := app_own 24 40 i _ 2 24 Try.underlying24 hi hz0 hz1 hz2 rfl (by decide) hx ⟨w.heap.size, 0, none⟩ 1 [.string (mk x), .int .i64 y] rfl (fun j u hj => by
      rw [add_off, Lib.cell_of_heap (heap_alloc_new w _), Nat.zero_add]
      match j, hj with
      | 0, hj => exact hj
      | 1, hj => exact hj) (by intro u hu; simp at hu; rcases hu with rfl | rfl <;> rfl) (by unfold maxLen; unfold ERow.big at hb; omega) (by unfold ERow.big at hb; omega)
  obtain ⟨a, c, rfl⟩ : ∃ a c, v' = .slice a (n3 + 1) c := by
    rcases e2.2 with ⟨_, q⟩ | ⟨g, cap, cur, rfl, _⟩
    · omega
    · exact ⟨_, _, rfl⟩
  exact ⟨a, c, w', e1, ⟨h'.fr.trans (grown_fr e3 h'.o3), rt_keep h'.l fun k cur _ hk => grown_st h'.r e3 (by decide) hk, rw_keep h'.f fun k cur _ hk => grown_st h'.r e3 (by decide) hk, ⟨_, e2⟩, h'.o1, h'.o2, fun k hk => by
    rcases e4 k hk with q | q
    · exact .inr (by have := h'.fr.size; omega)
    · exact h'.o3 k q⟩⟩
end
end Go.Proofs.Ytdcnkdkhanmklab.SpoilM
