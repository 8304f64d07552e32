/- The sort of All. -/
import Derived.Test.YtgmnmcaclpfknaaAllP
import Derived.Test.YtgmnmcaclpfknaaRFind
import Derived.Test.YtgmnmcaclpfknaaShelf
import Derived.Shelf.SlSortCmp.NoneTotal
namespace Go.Proofs.Ytgmnmcaclpfknaa.SortC
open Go.RowKit Go.Sort
open Go.Proofs.Ytgmnmcaclpfknaa.Tab
open Go.Proofs.Ytgmnmcaclpfknaa.Base
open Go.Proofs.Ytgmnmcaclpfknaa.AllP
open Go.Proofs.Ytgmnmcaclpfknaa.FindP (noSc)
open Go.Proofs.Ytgmnmcaclpfknaa.RowsL (valS cellsS)
open Go.Proofs.Ytgmnmcaclpfknaa.SetMath (lt_tot lt_not)
set_option linter.unusedVariables false
set_option linter.unusedSimpArgs false
instance : Inhabited Sc := ⟨noSc⟩
def cmpS (x y : Sc) : Int := Lib.compareBytes x.name y.name
theorem cmp_lt : ∀ a b : List UInt8, Lib.compareBytes a b < 0 ↔ a < b
  | [], [] => by simp [Lib.compareBytes]
  | [], b :: rb => by simp [Lib.compareBytes]
  | a :: ra, [] => by simp [Lib.compareBytes]
  | a :: ra, b :: rb => by
    unfold Lib.compareBytes
    rw [List.cons_lt_cons_iff]
    by_cases h : a < b
    · simp [h]
    · rw [if_neg h]
      by_cases h2 : b < a
      · rw [if_pos h2]
        have h3 : a ≠ b := by rintro rfl; exact h h2
        simp [h, h3]
      · rw [if_neg h2, cmp_lt ra rb]
        have h3 : a = b := by
          apply UInt8.toNat_inj.1
          rw [UInt8.lt_iff_toNat_lt] at h h2
          omega
        simp [h3]
theorem lt_iff (x y : Sc) : ltOf cmpS x y = decide (x.name < y.name) := by
  unfold ltOf cmpS
  rw [decide_eq_decide]
  exact cmp_lt _ _
theorem swo : SWO (ltOf cmpS) where
  irrefl x := by rw [lt_iff]; exact decide_eq_false (List.lt_irrefl _)
  trans x y z h1 h2 := by rw [lt_iff] at *; exact decide_eq_true (List.lt_trans (of_decide_eq_true h1) (of_decide_eq_true h2))
  ntrans x y z h1 h2 := by
    rw [lt_iff] at *
    refine decide_eq_false fun h3 => ?_
    have q1 := of_decide_eq_false h1
    have q2 := of_decide_eq_false h2
    rcases lt_tot y.name x.name with q | q | q
    · exact q2 (List.lt_trans q h3)
    · exact q2 (by rw [q]; exact h3)
    · exact q1 q
theorem self_in : docRows.all (fun r => decide (findS r.name = some r)) = true := by decide +kernel
theorem name_inj {a b : Sc} (ha : a ∈ docRows) (hb : b ∈ docRows) (h : a.name = b.name) : a = b := by
  have h1 := of_decide_eq_true (List.all_eq_true.1 self_in a ha)
  have h2 := of_decide_eq_true (List.all_eq_true.1 self_in b hb)
  rw [h, h2] at h1
  exact (Option.some.inj h1).symm
theorem doc_perm : (allRows.map spec).Perm docRows := by decide +kernel
theorem doc_ris : docRows.Pairwise (fun x y => x.name < y.name) := by decide +kernel
theorem sorted_doc {d' : Array Sc} (hp : PermIn 0 (allRows.map spec).toArray.size (allRows.map spec).toArray d') (hs : SortedIn (ltOf cmpS) 0 (allRows.map spec).toArray.size d') : d'.toList = docRows := by
  obtain ⟨hsz, _, hperm⟩ := hp
  have e1 : d'.extract 0 (allRows.map spec).toArray.size = d' := by rw [← hsz]; exact Array.extract_size
  rw [e1, Array.extract_size] at hperm
  have hp2 : d'.toList.Perm docRows := by
    have h3 : d'.toList.Perm (allRows.map spec) := by simpa using hperm
    exact h3.trans doc_perm
  refine List.Perm.eq_of_pairwise (le := fun x y => (!ltOf cmpS y x) = true) ?_ ?_ ?_ hp2
  · intro a b ha hb h1 h2
    rw [Bool.not_eq_true', lt_iff] at h1 h2
    have q1 := of_decide_eq_false h1
    have q2 := of_decide_eq_false h2
    refine name_inj (hp2.mem_iff.1 ha) hb ?_
    rcases lt_tot a.name b.name with q | q | q
    · exact absurd q q2
    · exact q
    · exact absurd q q1
  · rw [List.pairwise_iff_getElem]
    intro i j hi hj hij
    have hi' : i < d'.size := by simpa using hi
    have hj' : j < d'.size := by simpa using hj
    have := hs i j (Nat.zero_le _) hij (by rw [← hsz]; exact hj')
    rw [getElem!_pos d' i hi', getElem!_pos d' j hj'] at this
    simpa using this
  · refine doc_ris.imp fun {a b} h => ?_
    rw [Bool.not_eq_true', lt_iff]
    exact decide_eq_false (lt_not h)
theorem agg (w : World) : (isAgg 23).run Try.prog w = .ok true w := by kernel_rfl
theorem siz (w : World) : (Go.sizeOf 23).run Try.prog w = .ok 7 w := by kernel_rfl
theorem flat_eq (l : List Sc) : flatK cellsS 7 l.toArray = (flatS l).toArray := by
  refine Array.ext (by rw [size_flatK, List.size_toArray, List.size_toArray, flatS_len]) fun t h1 h2 => ?_
  rw [size_flatK] at h1
  have h3 : t < l.length * 7 := by simpa using h1
  have e1 := get_flatK cellsS 7 l.toArray t h1
  rw [getElem!_pos _ t (by rw [size_flatK]; exact h1)] at e1
  rw [e1]
  have hk : t / 7 < l.length := by omega
  have e2 : l.toArray[t / 7]! = l[t / 7]'hk := by rw [getElem!_pos _ _ (by simpa using hk)]; simp
  rw [e2]
  have h4 := RFind.flat7 cellsS (fun r => rfl) l (t / 7) (t % 7) hk (by omega)
  rw [show t / 7 * 7 + t % 7 = t by omega] at h4
  have h5 : (flatS l)[t]? = some ((flatS l)[t]'(by rw [flatS_len]; exact h3)) := List.getElem?_eq_getElem _
  have h6 : (l.flatMap cellsS)[t]? = some ((flatS l)[t]'(by rw [flatS_len]; exact h3)) := h5
  rw [h4] at h6
  show _ = (flatS l)[t]
  rw [List.getElem!_eq_getElem?_getD, h6]
  rfl
theorem heap_put {w : World} {g n : Nat} {os : Array Obj} {cur : Array Value} {e : TypeId} {fr : Nat × Nat} (F : Array Value) (hb : w.heap[g]? = some (.cells cur e fr)) :
    (grow (putRow id (Sort.ahead w n) g 0 F) os).heap[g]? = some (.cells (putCells id 0 F cur) e fr) := by
  have hg : g < w.heap.size := lt_of hb
  show ((putRow id (Sort.ahead w n) g 0 F).heap ++ os)[g]? = _
  rw [Array.getElem?_append_left (by simpa using hg)]
  simp [putRow, mapBlock, Sort.ahead, Array.getElem?_modify, hb, onCells]
theorem grown_put {w : World} {g n : Nat} {os : Array Obj} (F : Array Value) : w.grownBy (grow (putRow id (Sort.ahead w n) g 0 F) os) (some g) := by
  refine ⟨rfl, rfl, rfl, by simp, fun k hk hne => ?_⟩
  show ((putRow id (Sort.ahead w n) g 0 F).heap ++ os)[k]? = _
  rw [Array.getElem?_append_left (by simpa using hk)]
  have : g ≠ k := fun e => hne (by rw [e])
  simp [putRow, mapBlock, Sort.ahead, Array.getElem?_modify, this]
theorem take_put (cur : Array Value) (ts : List Value) (h : ts.length ≤ cur.size) : (putCells id 0 ts.toArray cur).toList.take ts.length = ts := by
  apply List.ext_getElem?
  intro j
  by_cases hj : j < ts.length
  · rw [List.getElem?_take_of_lt hj, Array.getElem?_toList]
    simp [putCells, hj, show j < cur.size by omega]
  · rw [List.getElem?_take_eq_none (by omega), List.getElem?_eq_none (by omega)]
abbrev OS (B : Nat) (w : World) (v : Value) (l : List Sc) : Prop := w.ownsRow B 23 7 v l.length (flatS l)
theorem holds_or {B : Nat} {w : World} {g cap : Nat} {l : List Sc} (h : OS B w (.slice (some ⟨g, 0, none⟩) l.length cap) l) : HoldsK cellsS 7 w g 0 l.toArray := by
  rcases h.2 with ⟨e, _⟩ | ⟨g', cap', cur, e, hb, hg, q1, q2, q3, q4⟩
  · cases e
  · injection e with e1 e2 e3
    injection e1 with e1
    injection e1 with e1
    subst e1
    unfold HoldsK
    rw [flat_eq]
    intro j hj
    have hj' : j < (flatS l).length := by simpa using hj
    rw [flatS_len] at hj'
    refine ⟨?_, by rw [Nat.zero_add]; exact Lib.frozen_of_heap hg j⟩
    have := h.cellAt j hj'
    rw [Nat.zero_add, this, List.getElem?_eq_getElem (by rw [flatS_len]; exact hj')]
    show some _ = some (id ((flatS l).toArray[j]!))
    rw [getElem!_pos (flatS l).toArray j hj]
    rfl
theorem or_put {B : Nat} {w : World} {g cap n : Nat} {l r : List Sc} {os : Array Obj} (h : OS B w (.slice (some ⟨g, 0, none⟩) l.length cap) l) (hr : r.length = l.length) : OS B (sortWorldK cellsS 7 w g 0 n r.toArray os) (.slice (some ⟨g, 0, none⟩) r.length cap) r ∧ w.grownBy (sortWorldK cellsS 7 w g 0 n r.toArray os) (some g) ∧ B ≤ g := by
  rcases h.2 with ⟨e, _⟩ | ⟨g', cap', cur, e, hb, hg, q1, q2, q3, q4⟩
  · cases e
  · injection e with e1 e2 e3
    injection e1 with e1
    injection e1 with e1
    subst e1 e3
    unfold sortWorldK putRowK
    rw [flat_eq]
    refine ⟨?_, grown_put _, hb⟩
    refine ⟨flatS_len r, Or.inr ⟨g, cap, _, rfl, hb, heap_put _ hg, by omega, q2, by simp [putCells, q3], ?_⟩⟩
    rw [← flatS_len r]
    exact take_put cur _ (by rw [flatS_len, q3]; omega)
theorem grow2 (w : World) (o1 o2 : Obj) : (w.alloc o1).alloc o2 = grow (w.drewN 0) #[o1, o2] := by
  unfold grow World.alloc World.drewN
  rw [show w.heap ++ #[o1, o2] = (w.heap.push o1).push o2 from by simp [← Array.append_singleton]]
  rfl
set_option maxRecDepth 100000 in
theorem cmp_call (x y : Sc) (w : World) : Calls Try.prog 24 #[.agg (cellsS x).toArray, .agg (cellsS y).toArray] w fun e w' => e = .returned (.int .i64 (cmpS x y)) ∧ ∃ q os', w' = grow (w.drewN q) os' := by
  unfold cellsS
  have HC := hid_of (fun W => Try.strings_Compare (mk x.name) (mk y.name) W)
  have he : Lib.compareBytes (mk x.name).data.toList (mk y.name).data.toList = cmpS x y := rfl
  rw [he] at HC
  clear he
  generalize mk x.name = X at *
  generalize mk y.name = Y at *
  go_enter Try.func24, Try.ntmps24
  go_wp2_with fail
  refine (HC.out _).mono ?_
  rintro e w1 ⟨rfl, hw1⟩
  rw [hw1]
  clear hw1 w1
  go_wp2_with fail
  go_ret
  exact ⟨rfl, 0, #[.cells #[.string X, .int .i64 x.arity, .bool x.wr, .bool x.ct, .int .i64 x.first, .int .i64 x.last, .int .i64 x.step] 23, .cells #[.string Y, .int .i64 y.arity, .bool y.wr, .bool y.ct, .int .i64 y.first, .int .i64 y.last, .int .i64 y.step] 23], grow2 _ _ _⟩
theorem cmpLays (blk off size : Nat) (w : World) : CmpLays Try.prog 24 #[] cellsS 7 cmpS blk off size w := fun _ _ _ _ x y => cmp_call x y _
set_option maxHeartbeats 1000000 in
theorem sort_call {B : Nat} {w : World} {v : Value} (h : OS B w v (allRows.map spec)) (hB : B ≤ w.heap.size) : Calls Try.prog 23 #[v, .func (.func 24) #[] #[]] w fun e w' => e = .returned (.tuple #[]) ∧ OS B w' v docRows ∧ Go.RowKit.Below B w w' ∧ w.grownBy w' v.ownBlock := by
  obtain ⟨g, cap, rfl⟩ : ∃ g cap, v = .slice (some ⟨g, 0, none⟩) (allRows.map spec).length cap := by
    rcases h.2 with ⟨e, h0⟩ | ⟨g', cap', cur, e, _⟩
    · rw [List.length_map, all_len] at h0; cases h0
    · exact ⟨g', cap', e⟩
  have eg : ∀ args w, (callFunc 24 args).run Try.prog w = .ok (.enter 24 args) w := enters_of Try.func24 (by kernel_rfl) rfl
  have hlt : g < w.heap.size := (h.lt g rfl).2
  have e0 : (allRows.map spec).toArray.size = (allRows.map spec).length := by simp
  have hc := AnyQ.slices_SortFunc Try.sortSc 7 agg siz cellsS (fun _ => rfl) (fun x u hu => by simp [cellsS] at hu; rcases hu with rfl | rfl | rfl | rfl | rfl | rfl | rfl <;> rfl) cmpS swo 24 #[] g 0 cap (allRows.map spec).toArray w eg (cmpLays g 0 _ w) (holds_or h) hlt (by rw [e0, List.length_map, all_len]; decide)
  rw [e0] at hc
  refine (show Calls Try.prog 23 _ w _ from hc).mono fun e w' ⟨h1, d', n, os, hp, hs, h2⟩ => ?_
  have hd := sorted_doc (by rw [e0]; exact hp) (by rw [e0]; exact hs)
  have hd2 : d' = docRows.toArray := by rw [← hd]
  rw [hd2] at h2
  have hle : docRows.length = (allRows.map spec).length := by rw [List.length_map, all_len, doc_len]
  obtain ⟨o1, o2, o3⟩ := or_put (n := n) (os := os) h hle
  rw [hle] at o1
  rw [h2]
  refine ⟨h1, ?_, (Go.RowKit.Below.refl _ w).grown o2 hB (fun j hj => by cases hj; exact o3), o2⟩
  show World.ownsRow _ _ _ _ _ docRows.length _
  rw [hle]
  exact o1
end Go.Proofs.Ytgmnmcaclpfknaa.SortC
