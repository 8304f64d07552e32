/- Nine lists, each in a row of its own: one is spoilt, the others stand. -/
import Derived.Test.YthhlembempknmabRegO
import Derived.Test.YthhlembempknmabAppF
namespace Go.Proofs.Ythhlembempknmab.OwnM
open Go Go.RowKit Go.Sort
open Go.Proofs.Ythhlembempknmab.SetMath
open Go.Proofs.Ythhlembempknmab.Base
open Go.Proofs.Ythhlembempknmab.Sets
open Go.Proofs.Ythhlembempknmab.ROf
open Go.Proofs.Ythhlembempknmab.Lists
open Go.Proofs.Ythhlembempknmab.RegO
open Go.Proofs.Ythhlembempknmab.AppF
set_option linter.unusedVariables false
set_option linter.unusedSimpArgs false
def spt : Bs := [115, 112, 111, 105, 108, 116]
def beh : Bs := [98, 101, 104, 105, 110, 100]
theorem row_keep {Sub : List El → Prop} {B : Nat} {w w' : World} {v : Value} (h : Row Sub B w v) (hk : ∀ g n c, g < w.heap.size → v = .slice (some ⟨g, 0, none⟩) n c → w'.heap[g]? = w.heap[g]?) : Row Sub B w' v := by
  obtain ⟨lst, h1, h2⟩ := h
  refine ⟨lst, ?_, h2⟩
  rcases h1 with h1 | ⟨g, c, cur, rfl, hB, hr, r⟩
  · exact .inl h1
  · exact .inr ⟨g, c, cur, rfl, hB, (hk g _ _ (lt_of hr) rfl).trans hr, r⟩
/-- the headers vs lie at gh; the rows from number i on stand -/
structure Al (Sub : List El → Prop) (B gh : Nat) (vs : List Value) (i : Nat) (w : World) : Prop where
  hd : ∃ cur, w.heap[gh]? = some (.cells cur 22 (0, 0)) ∧ ∀ (j : Nat) v, vs[j]? = some v → cur[j]? = some v
  rows : ∀ (j : Nat) v, vs[j]? = some v → i ≤ j → Row Sub B w v
  apart : ∀ (j k : Nat) v v', vs[j]? = some v → vs[k]? = some v' → j ≠ k → Dj v v'
section
variable {Sub : List El → Prop} {B gh i : Nat} {vs : List Value} {w w' : World}
theorem Al.cell (h : Al Sub B gh vs i w) {j : Nat} {v : Value} (hj : vs[j]? = some v) : w.cell? ⟨gh, j, none⟩ = some v := by
  obtain ⟨cur, h1, h2⟩ := h.hd
  rw [Lib.cell_of_heap h1]
  exact h2 j v hj
theorem Al.next (h : Al Sub B gh vs i w) : Al Sub B gh vs (i + 1) w := ⟨h.hd, fun j v hj hi => h.rows j v hj (by omega), h.apart⟩
theorem Al.below (h : Al Sub B gh vs i w) (b : Below w.heap.size w w') : Al Sub B gh vs i w' := by
  obtain ⟨cur, h1, h2⟩ := h.hd
  exact ⟨⟨cur, (b.block gh (lt_of h1)).trans h1, h2⟩, fun j v hj hi => row_keep (h.rows j v hj hi) fun g n c hg _ => b.block g hg, h.apart⟩
/-- a cell of one of the rows ahead is turned -/
theorem Al.spoil (h : Al Sub B gh vs (i + 1) w) {v : Value} {g n c k : Nat} (hv : vs[i]? = some v) (e : v = .slice (some ⟨g, 0, none⟩) n c) {cur : Array Value} (hg : w.heap[g]? = some (.cells cur 9 (0, 0))) (y : Value) : Al Sub B gh vs (i + 1) (w.setCell ⟨g, k, none⟩ y) := by
  obtain ⟨cr, h1, h2⟩ := h.hd
  have hne : gh ≠ g := fun e => by rw [e, hg] at h1; cases h1
  refine ⟨⟨cr, (set_ne hne _).trans h1, h2⟩, fun j u hj hi => row_keep (h.rows j u hj hi) fun g' n' c' _ e' => set_ne (fun q => ?_) _, h.apart⟩
  exact h.apart j i u v hj hv (by omega) g' n' c' g n c e' e q
/-- what has grown out of one of the rows ahead -/
structure Zs (B i : Nat) (vs : List Value) (w : World) (z : Value) (zn : Nat) : Prop where
  nr : ∃ lst, NR B w z lst ∧ lst.length = zn
  apart : ∀ (j : Nat) v, vs[j]? = some v → i < j → Dj z v
theorem Zs.grow (h : Al Sub B gh vs (i + 1) w) {z : Value} {zn : Nat} (hz : Zs B i vs w z zn) (x : El) (hb : zn * 16 ≤ 140737488355328) (hB : B ≤ w.heap.size) (ty : TypeId) :
    ∃ z' w', (Builtin.append_ #[22, 22] ty #[z, .slice (some ⟨w.heap.size, 0, none⟩) 1 1]).run Try.prog (w.alloc (.cells #[V x] 9)) = .ok z' w' ∧ Zs B i vs w' z' (zn + 1) ∧ Al Sub B gh vs (i + 1) w' ∧ Below B w w' := by
  obtain ⟨⟨lst, hn, hl⟩, ha⟩ := hz
  have b1 := (Below.refl w.heap.size w).alloc (Nat.le_refl _) (.cells #[V x] 9)
  have hm : Rd (fun _ => True) (w.alloc (.cells #[V x] 9)) (some ⟨w.heap.size, 0, none⟩) [x] := by
    refine .inr ⟨w.heap.size, 0, rfl, trivial, fun j y hj => ?_⟩
    rw [Lib.cell_of_heap (heap_alloc_new w _)]
    cases j with
    | zero => simp at hj; subst hj; rfl
    | succ j => simp at hj
  obtain ⟨z', w', h1, h2, h3, h4, h5⟩ := app_fr (c := 1) (hn.below b1) hm (.inr ⟨rfl, by rw [hl]; exact hb⟩) (Nat.le_trans hB b1.size) ty
  have hA := h.below b1
  have hsz : w.heap.size ≤ (w.alloc (.cells #[V x] 9)).heap.size := b1.size
  refine ⟨z', w', h1, ⟨⟨_, h2, by rw [List.length_append, hl]; rfl⟩, fun j v hj hi g n c g' n' c' e e' => ?_⟩, ⟨?_, fun j v hj hi => ?_, h.apart⟩, (b1.mono hB).trans h3⟩
  · rcases h5 g n c e with q | ⟨n2, c2, q⟩
    · obtain ⟨l2, r1, _⟩ := h.rows j v hj hi
      rcases r1 with ⟨r1, _⟩ | ⟨g2, c3, cur, r1, _, hh, _⟩
      · rw [r1] at e'; cases e'
      · rw [r1] at e'
        cases e'
        have := lt_of hh
        omega
    · exact ha j v hj hi g n2 c2 g' n' c' q e'
  · obtain ⟨cr, k1, k2⟩ := hA.hd
    refine ⟨cr, (h4 gh (lt_of k1) fun g n c e => ?_).trans k1, k2⟩
    rcases hn.below b1 with ⟨r1, _⟩ | ⟨g2, c3, cur, r1, _, hh, _⟩
    · rw [r1] at e; cases e
    · rw [r1] at e
      cases e
      intro q
      rw [q, hh] at k1
      cases k1
  · refine row_keep (hA.rows j v hj hi) fun g n c hg e => h4 g hg fun g' n' c' e' q => ?_
    exact ha j v hj hi g' n' c' g n c e' e q.symm
end
/-- a list of lists at a block that holds one header -/
theorem ll_at {G : Nat → Prop} {w : World} {u : Value} {l : List El} {q : Nat} (hq : w.heap[q]? = some (.cells #[u] 22 (0, 0))) (h : SL G w u l) : LL (fun _ => True) w (some ⟨q, 0, none⟩) [l] [u] :=
  ⟨rfl, .inr ⟨q, 0, rfl, trivial, fun j x hj => by
    rw [Lib.cell_of_heap hq, Nat.zero_add]
    simpa using hj⟩, fun j x y h1 h2 => by
    match j with
    | 0 => cases h1; cases h2; exact h.mono fun _ _ _ => trivial
    | j + 1 => simp at h1⟩
/-- two more headers behind seven -/
theorem grow9 {w : World} {q : Nat} {us : List Value} (hu : us.length = 7) (hq : w.heap[q]? = some (.cells us.toArray 22 (0, 0))) (x y : Value) (hx : x.oneCell' = true) (hy : y.oneCell' = true) (ty : TypeId) :
    ∃ cap w', (Builtin.append_ #[24, 24] ty #[.slice (some ⟨q, 0, none⟩) 7 7, .slice (some ⟨w.heap.size, 0, none⟩) 2 2]).run Try.prog (w.alloc (.cells #[x, y] 22)) = .ok (.slice (some ⟨w.heap.size + 1, 0, none⟩) 9 cap) w' ∧ (∃ cur, w'.heap[w.heap.size + 1]? = some (.cells cur 22 (0, 0)) ∧ ∀ (j : Nat) v, (us ++ [x, y])[j]? = some v → cur[j]? = some v) ∧ Below w.heap.size w w' := by
  obtain ⟨i, hi, hz0, hz1, hz2⟩ := info_parts Twins.info22
  have b1 := (Below.refl w.heap.size w).alloc (Nat.le_refl _) (.cells #[x, y] 22)
  have hsrc : Src Try.prog i.size 24 (.slice (some ⟨w.heap.size, 0, none⟩) 2 2) 2 [x, y] (w.alloc (.cells #[x, y] 22)) := by
    rw [hz1]
    refine Src.ofSlice (P := Try.prog) _ Try.underlying24 ⟨w.heap.size, 0, none⟩ 2 2 [x, y] rfl (fun j u hj => ?_) (fun u hu => by
      rcases List.mem_cons.1 hu with rfl | hu
      · exact hx
      · rw [List.mem_singleton.1 hu]; exact hy)
    rw [add_off, Lib.cell_of_heap (heap_alloc_new w _), Nat.zero_add]
    simpa using hj
  have hq1 : (w.alloc (.cells #[x, y] 22)).heap[q]? = some (.cells us.toArray 22 (0, 0)) := (b1.block q (lt_of hq)).trans hq
  have hold : (Builtin.firstCells i.size 7 (.slice (some ⟨q, 0, none⟩) 7 7)).run Try.prog (w.alloc (.cells #[x, y] 22)).drew = .ok us.toArray (w.alloc (.cells #[x, y] 22)).drew := by
    refine run_firstCells_some (P := Try.prog) (w.alloc (.cells #[x, y] 22)).drew i.size 7 ⟨q, 0, none⟩ 7 7 us (by simp [hz1, hu]) ?_
    intro j v hj
    rw [add_off, Nat.zero_add]
    show (w.alloc (.cells #[x, y] 22)).cell? ⟨q, j, none⟩ = _
    rw [Lib.cell_of_heap hq1]
    simpa using hj
  have hfit : Builtin.nextslicecap (7 + 2) 7 * i.bytes ≤ 281474976710656 := by rw [hz2]; exact growslice_fits (by decide) (by decide)
  have hr := run_append_grow_src (P := Try.prog) (w.alloc (.cells #[x, y] 22)) 24 24 ty 22 i (.slice none 0 0) Try.underlying24 hi hz0 (some ⟨q, 0, none⟩) 7 7 us hold (.slice (some ⟨w.heap.size, 0, none⟩) 2 2) 2 [x, y] hsrc (by decide) (by decide) hfit
  have hs : (w.alloc (.cells #[x, y] 22)).heap.size = w.heap.size + 1 := by simp
  rw [hs] at hr
  refine ⟨_, _, hr, ⟨_, by rw [← hs]; exact heap_alloc_new (w.alloc (.cells #[x, y] 22)).drew _, fun j v hj => ?_⟩, ?_⟩
  · have hjl : j < (us ++ [x, y]).length := (List.getElem?_eq_some_iff.1 hj).1
    rw [Array.getElem?_append_left (by simpa using hjl)]
    simpa using hj
  · exact b1.trans ((Below.refl _ (w.alloc (.cells #[x, y] 22))).drew.alloc (by simp) _)
def nine (f : Nat → Value) (rx ry : Value) : List Value := [f 26, f 31, f 36, f 41, f 45, f 47, f 51] ++ [rx, ry]
theorem nine_at {f : Nat → Value} {rx ry v : Value} {j : Nat} (h : (nine f rx ry)[j]? = some v) : (∃ p, cs[j]? = some p ∧ v = f p.2) ∨ (j = 7 ∧ v = rx) ∨ (j = 8 ∧ v = ry) := by
  unfold nine at h
  match j with
  | 0 => cases h; exact .inl ⟨_, rfl, rfl⟩
  | 1 => cases h; exact .inl ⟨_, rfl, rfl⟩
  | 2 => cases h; exact .inl ⟨_, rfl, rfl⟩
  | 3 => cases h; exact .inl ⟨_, rfl, rfl⟩
  | 4 => cases h; exact .inl ⟨_, rfl, rfl⟩
  | 5 => cases h; exact .inl ⟨_, rfl, rfl⟩
  | 6 => cases h; exact .inl ⟨_, rfl, rfl⟩
  | 7 => cases h; exact .inr (.inl ⟨rfl, rfl⟩)
  | 8 => cases h; exact .inr (.inr ⟨rfl, rfl⟩)
  | j + 9 => simp at h
theorem cs_lt {j : Nat} {p : Nat × Nat} (h : cs[j]? = some p) : j < 7 ∧ p ∈ cs := ⟨(List.getElem?_eq_some_iff.1 h).1, List.mem_of_getElem? h⟩
theorem cs_ne {j k : Nat} {p q : Nat × Nat} (h : cs[j]? = some p) (h' : cs[k]? = some q) (hne : j ≠ k) : p ≠ q := by
  have hn : cs.Nodup := by decide
  intro e
  subst e
  obtain ⟨h1, h2⟩ := List.getElem?_eq_some_iff.1 h
  obtain ⟨h3, h4⟩ := List.getElem?_eq_some_iff.1 h'
  exact hne ((List.getElem_inj hn).1 (h2.trans h4.symm))
theorem al_nine {Sub : List El → Prop} {w2 W w4 w5 w6 : World} {f : Nat → Value} {rx ry : Value} {X Y : List El} {gh : Nat} (D : Done Sub w2 f W) (n4 : NR W.heap.size w4 rx X) (sX : Sub X) (b4 : Below W.heap.size W w4) (n5 : NR w4.heap.size w5 ry Y) (sY : Sub Y) (b5 : Below w4.heap.size w4 w5)
    (hd : ∃ cur, w6.heap[gh]? = some (.cells cur 22 (0, 0)) ∧ ∀ (j : Nat) v, (nine f rx ry)[j]? = some v → cur[j]? = some v) (b6 : Below w5.heap.size w5 w6) : Al Sub w2.heap.size gh (nine f rx ry) 0 w6 := by
  have z4 : w2.heap.size ≤ W.heap.size := D.onw.bl.size
  have r4 : Row Sub w2.heap.size w4 rx := ⟨X, n4.mono z4, sX⟩
  have r5 : Row Sub w2.heap.size w5 ry := ⟨Y, n5.mono (Nat.le_trans z4 b4.size), sY⟩
  have o4 : ∀ p ∈ cs, Row Sub w2.heap.size w4 (f p.2) := fun p hp => RegO.row_below (D.rows p hp) b4
  refine ⟨hd, fun j v hj _ => ?_, fun j k v v' hj hk hne => ?_⟩
  · rcases nine_at hj with ⟨p, hp, rfl⟩ | ⟨_, rfl⟩ | ⟨_, rfl⟩
    · exact RegO.row_below (RegO.row_below (o4 p (cs_lt hp).2) b5) b6
    · exact RegO.row_below (RegO.row_below r4 b5) b6
    · exact RegO.row_below r5 b6
  · rcases nine_at hj with ⟨p, hp, rfl⟩ | ⟨e1, rfl⟩ | ⟨e1, rfl⟩
    · rcases nine_at hk with ⟨q, hq, rfl⟩ | ⟨e2, rfl⟩ | ⟨e2, rfl⟩
      · exact D.apart p (cs_lt hp).2 q (cs_lt hq).2 (cs_ne hp hq hne)
      · exact dj_new (D.rows p (cs_lt hp).2) n4
      · exact dj_new (o4 p (cs_lt hp).2) n5
    · rcases nine_at hk with ⟨q, hq, rfl⟩ | ⟨e2, rfl⟩ | ⟨e2, rfl⟩
      · exact dj_symm (dj_new (D.rows q (cs_lt hq).2) n4)
      · exact absurd (e1.trans e2.symm) hne
      · exact dj_new r4 n5
    · rcases nine_at hk with ⟨q, hq, rfl⟩ | ⟨e2, rfl⟩ | ⟨e2, rfl⟩
      · exact dj_symm (dj_new (o4 q (cs_lt hq).2) n5)
      · exact dj_symm (dj_new r4 n5)
      · exact absurd (e1.trans e2.symm) hne
end Go.Proofs.Ythhlembempknmab.OwnM
