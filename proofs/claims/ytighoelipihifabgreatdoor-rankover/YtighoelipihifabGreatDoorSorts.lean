/- slices.SortFunc, slices.Reverse, slices.Clone over rows of entries. -/
import Derived.Test.YtighoelipihifabGreatDoorWithout
import Derived.Test.YtighoelipihifabGreatDoorShelf
namespace Go.Proofs.YtighoelipihifabGreatDoor.Sorts
open Go.RowKit Go.Maps Go.Sort
open Go.Proofs.YtighoelipihifabGreatDoor.MapMath
open Go.Proofs.YtighoelipihifabGreatDoor.RankMath
open Go.Proofs.YtighoelipihifabGreatDoor.RankMath2
open Go.Proofs.YtighoelipihifabGreatDoor.RankMath3
open Go.Proofs.YtighoelipihifabGreatDoor.Base
open Go.Proofs.YtighoelipihifabGreatDoor.Cmp
set_option linter.unusedVariables false

theorem agg46 (w : World) : (isAgg 35).run Tryz.prog w = .ok true w := by kernel_rfl
theorem siz46 (w : World) : (Go.sizeOf 35).run Tryz.prog w = .ok 2 w := by kernel_rfl
theorem flat_eq (l : EL) : flatK eCells 2 l.toArray = (l.flatMap eCells).toArray := by
  refine Array.ext (by rw [size_flatK, List.size_toArray, List.size_toArray, fflat_len]) fun t h1 h2 => ?_
  rw [size_flatK] at h1
  have h3 : t < l.length * 2 := by simpa using h1
  have e1 := get_flatK eCells 2 l.toArray t h1
  rw [getElem!_pos _ t (by rw [size_flatK]; exact h1)] at e1
  rw [e1]
  have hk : t / 2 < l.length := by omega
  have e2 : l.toArray[t / 2]! = l[t / 2]'hk := by rw [getElem!_pos _ _ (by simpa using hk)]; simp
  rw [e2]
  obtain ⟨d0, d1⟩ := fflat_at l (t / 2) hk
  rcases Nat.mod_two_eq_zero_or_one t with e | e
  · have e3 : t = t / 2 * 2 := by omega
    rw [e]
    have h4 : (l.flatMap eCells)[t]? = some (.string (mk (l[t / 2]'hk).1)) := by have := d0; rw [show t / 2 * 2 = t from by omega] at this; exact this
    have h5 := (List.getElem?_eq_some_iff.1 h4).2
    show _ = (l.flatMap eCells)[t]
    rw [h5]; rfl
  · have e3 : t = t / 2 * 2 + 1 := by omega
    rw [e]
    have h4 : (l.flatMap eCells)[t]? = some (.int .i64 (l[t / 2]'hk).2) := by have := d1; rw [show t / 2 * 2 + 1 = t from by omega] at this; exact this
    have h5 := (List.getElem?_eq_some_iff.1 h4).2
    show _ = (l.flatMap eCells)[t]
    rw [h5]; rfl
theorem heap_put {w : World} {g n : Nat} {os : Array Obj} {cur : Array Value} {e : TypeId} {fr : Nat × Nat} (F : Array Value) (hb : w.heap[g]? = some (.cells cur e fr)) :
    (grow (putRow id (Sort.ahead w n) g 0 F) os).heap[g]? = some (.cells (putCells id 0 F cur) e fr) := by
  have hg : g < w.heap.size := lt_of hb
  show ((putRow id (Sort.ahead w n) g 0 F).heap ++ os)[g]? = _
  rw [Array.getElem?_append_left (by simpa using hg)]
  simp [putRow, mapBlock, Sort.ahead, Array.getElem?_modify, hb, onCells]
theorem grown_put {w : World} {g n : Nat} {os : Array Obj} (F : Array Value) : w.grownBy (grow (putRow id (Sort.ahead w n) g 0 F) os) (some g) := by
  refine ⟨rfl, rfl, rfl, by simp, fun k hk hne => ?_⟩
  show ((putRow id (Sort.ahead w n) g 0 F).heap ++ os)[k]? = _
  rw [Array.getElem?_append_left (by simpa using hk)]
  have : g ≠ k := fun e => hne (by rw [e])
  simp [putRow, mapBlock, Sort.ahead, Array.getElem?_modify, this]
theorem take_put (cur : Array Value) (ts : List Value) (h : ts.length ≤ cur.size) : (putCells id 0 ts.toArray cur).toList.take ts.length = ts := by
  apply List.ext_getElem?
  intro j
  by_cases hj : j < ts.length
  · rw [List.getElem?_take_of_lt hj, Array.getElem?_toList]
    simp [putCells, hj, show j < cur.size by omega]
  · rw [List.getElem?_take_eq_none (by omega), List.getElem?_eq_none (by omega)]
theorem holds_or {B : Nat} {w : World} {g cap : Nat} {l : EL} (h : OR B w (.slice (some ⟨g, 0, none⟩) l.length cap) l) : HoldsK eCells 2 w g 0 l.toArray := by
  rcases h.2 with ⟨e, _⟩ | ⟨g', cap', cur, e, hb, hg, q1, q2, q3, q4⟩
  · cases e
  · injection e with e1 e2 e3
    injection e1 with e1
    injection e1 with e1
    subst e1
    unfold HoldsK
    rw [flat_eq]
    intro j hj
    have hj' : j < (l.flatMap eCells).length := by simpa using hj
    rw [fflat_len] at hj'
    refine ⟨?_, by rw [Nat.zero_add]; exact Lib.frozen_of_heap hg j⟩
    have := h.cellAt j hj'
    rw [Nat.zero_add, this, List.getElem?_eq_getElem (by rw [fflat_len]; exact hj')]
    show some _ = some (id ((l.flatMap eCells).toArray[j]!))
    rw [getElem!_pos (l.flatMap eCells).toArray j hj]
    rfl
theorem or_put {B : Nat} {w : World} {g cap n : Nat} {l r : EL} {os : Array Obj} (h : OR B w (.slice (some ⟨g, 0, none⟩) l.length cap) l) (hr : r.length = l.length) : OR B (sortWorldK eCells 2 w g 0 n r.toArray os) (.slice (some ⟨g, 0, none⟩) l.length cap) r ∧ w.grownBy (sortWorldK eCells 2 w g 0 n r.toArray os) (some g) ∧ B ≤ g := by
  rcases h.2 with ⟨e, _⟩ | ⟨g', cap', cur, e, hb, hg, q1, q2, q3, q4⟩
  · cases e
  · injection e with e1 e2 e3
    injection e1 with e1
    injection e1 with e1
    subst e1 e3
    unfold sortWorldK putRowK
    rw [flat_eq]
    refine ⟨?_, grown_put _, hb⟩
    refine ⟨fflat_len r, Or.inr ⟨g, cap, _, by rw [hr], hb, heap_put _ hg, by omega, q2, by simp [putCells, q3], ?_⟩⟩
    rw [← fflat_len r]
    exact take_put cur _ (by rw [fflat_len, q3]; omega)
theorem or_fit {B : Nat} {w : World} {v : Value} {l : EL} (h : OR B w v l) : (l = [] ∧ v = .slice none 0 0) ∨ ∃ g cap, v = .slice (some ⟨g, 0, none⟩) l.length cap := by
  rcases h.2 with ⟨e, h0⟩ | ⟨g', cap', cur, e, _⟩
  · exact Or.inl ⟨List.length_eq_zero_iff.1 h0, e⟩
  · exact Or.inr ⟨g', cap', e⟩
theorem swo : SWO (ltOf cmpE) where
  irrefl x := by unfold ltOf; simp [cmpE_lt]; exact ltE_irr x
  trans x y z h1 h2 := by unfold ltOf at *; simp [cmpE_lt] at *; exact ltE_trans h1 h2
  ntrans x y z h1 h2 := by
    unfold ltOf at *
    rw [decide_eq_false_iff_not, cmpE_lt] at *
    intro h3
    rcases ltE_tot y x with q | q | q
    · exact h2 (ltE_trans q h3)
    · exact h2 (q ▸ h3)
    · exact h1 q
theorem ltOf_ltb (x y : Ent) : ltOf cmpE x y = ltb x y := by
  unfold ltOf ltb
  rw [decide_eq_decide]
  exact cmpE_lt x y
def leM (x y : Ent) : Bool := !ltOf cmpE y x
theorem srt_merge {l : EL} (u : Uq l) : l.mergeSort leM = srtL l := by
  refine srtL_is (List.mergeSort_perm l leM) ?_ u
  have h1 : (l.mergeSort leM).Pairwise (fun a b => leM a b = true) := List.pairwise_mergeSort (fun a b c h1 h2 => by
    unfold leM at *
    rw [Bool.not_eq_true'] at *
    exact swo.ntrans c b a h2 h1) (fun a b => by
    unfold leM
    rw [ltOf_ltb, ltOf_ltb]
    cases h : ltb b a with
    | false => rfl
    | true => rw [ltb_f.2 (ltE_asy (ltb_t.1 h))]; rfl) l
  have h2 : (l.mergeSort leM).Nodup := (List.mergeSort_perm l leM).nodup_iff.2 (uq_nodup u)
  refine (h1.and h2).imp fun {a b} hab => ?_
  have h3 : ltb b a = false := by have := hab.1; unfold leM at this; rw [ltOf_ltb] at this; simpa using this
  rcases ltE_tot a b with q | q | q
  · exact q
  · exact absurd q hab.2
  · exact absurd q (ltb_f.1 h3)
theorem cmpLays (blk off size : Nat) (w : World) : CmpLays Tryz.prog 19 #[] eCells 2 cmpE blk off size w := fun _ _ _ _ x y => compare_call x y _
set_option maxHeartbeats 1000000 in
theorem sort_call {B : Nat} {w : World} {v : Value} {l : EL} (h : OR B w v l) (u : Uq l) (hn : l.length ≤ big) (hB : B ≤ w.heap.size) : Calls Tryz.prog 18 #[v, .func (.func 19) #[] #[]] w fun e w' => e = .returned (.tuple #[]) ∧ OR B w' v (srtL l) ∧ Below B w w' := by
  rcases or_fit h with ⟨rfl, rfl⟩ | ⟨g, cap, rfl⟩
  · have hc := AnyF.slices_SortFunc_none Tryz.sortSc none 0 (.func (.func 19) #[] #[]) w
    refine (show Calls Tryz.prog 18 _ w _ from hc).mono fun e w' ⟨h1, h2⟩ => ⟨h1, ?_, ?_⟩
    · rw [h2]; exact h
    · rw [h2]; exact Below.refl _ _
  · have eg : ∀ args w, (callFunc 19 args).run Tryz.prog w = .ok (.enter 19 args) w := enters_of Tryz.func19 (by kernel_rfl) rfl
    have hlt : g < w.heap.size := (h.lt g rfl).2
    have hc := AnyQ.slices_SortFunc_total Tryz.sortSc 2 agg46 siz46 eCells (fun _ => rfl) (fun x u hu => by simp [eCells] at hu; rcases hu with rfl | rfl <;> rfl) cmpE swo 19 #[] g 0 cap l.toArray w eg (cmpLays g 0 _ w) (holds_or h) hlt (by simp; unfold big at hn; omega) (fun x y h1 h2 => by
      rw [ltOf_ltb] at h1 h2
      rcases ltE_tot x y with q | q | q
      · exact absurd q (ltb_f.1 h1)
      · exact q
      · exact absurd q (ltb_f.1 h2))
    have e0 : l.toArray.size = l.length := by simp
    rw [e0] at hc
    refine (show Calls Tryz.prog 18 _ w _ from hc).mono fun e w' ⟨h1, n, os, h2⟩ => ?_
    have e1 : (l.toArray.toList.mergeSort fun x y => !ltOf cmpE y x) = srtL l := srt_merge u
    rw [e1] at h2
    obtain ⟨o1, o2, o3⟩ := or_put (n := n) (os := os) h (srtL_len l)
    rw [h2]
    refine ⟨h1, ?_, (Below.refl _ w).grown o2 hB (fun j hj => by cases hj; exact o3)⟩
    show World.ownsRow _ _ _ _ _ (srtL l).length _
    have e2 := srtL_len l
    exact o1
set_option maxHeartbeats 1000000 in
theorem rev_call {B : Nat} {w : World} {v : Value} {l : EL} (h : OR B w v l) (hn : l.length ≤ big) (hB : B ≤ w.heap.size) : Calls Tryz.prog 53 #[v] w fun e w' => e = .returned (.tuple #[]) ∧ OR B w' v l.reverse ∧ Below B w w' := by
  rcases or_fit h with ⟨rfl, rfl⟩ | ⟨g, cap, rfl⟩
  · have hc := AnyQ.slices_Reverse_empty Tryz.revSc none 0 w
    refine (show Calls Tryz.prog 53 _ w _ from hc).mono fun e w' ⟨h1, h2⟩ => ⟨h1, ?_, ?_⟩
    · rw [h2]; exact h
    · rw [h2]; exact Below.refl _ _
  · have hc := AnyQ.slices_Reverse Tryz.revSc 2 agg46 siz46 eCells (fun _ => rfl) (fun x u hu => by simp [eCells] at hu; rcases hu with rfl | rfl <;> rfl) g 0 cap l.toArray w (holds_or h) (by simp; unfold big at hn; omega)
    have e0 : l.toArray.size = l.length := by simp
    rw [e0] at hc
    refine (show Calls Tryz.prog 53 _ w _ from hc).mono fun e w' ⟨h1, n, h2⟩ => ?_
    have e1 : l.toArray.reverse = l.reverse.toArray := by simp
    obtain ⟨o1, o2, o3⟩ := or_put (n := n) (os := #[]) h (show l.reverse.length = l.length from List.length_reverse)
    unfold sortWorldK at o1 o2
    rw [grow_empty] at o1 o2
    rw [h2, e1]
    refine ⟨h1, ?_, (Below.refl _ w).grown o2 hB (fun j hj => by cases hj; exact o3)⟩
    exact o1
theorem bd_made (w : World) : Bd w (.slice (some ⟨w.heap.size, 0, none⟩) 0 0) [] (w.alloc (.cells #[] 35)) := ⟨World.ownsRow_made w #[] 0 (Nat.le_refl _) (Nat.zero_le _) (by simp), bnew w _⟩
theorem eql_nil (a : Addr) (n c : Nat) (w : World) : (binOp .eql 22 (.slice (some a) n c) (.slice none 0 0)).run Tryz.prog w = .ok (.bool false) w := Lib.run_eql_slice_nil w _ _ (some a) n c 0 0 Tryz.underlying22
set_option maxHeartbeats 1000000 in
set_option maxRecDepth 100000 in
theorem clone_call {w : World} {v : Value} {l : EL} (h : FS w v l) (hn : l.length ≤ big) : Calls Tryz.prog 17 #[v] w fun e w' => ∃ v', e = .returned v' ∧ OR w.heap.size w' v' l ∧ Below w.heap.size w w' := by
  have hF := h
  obtain ⟨a, c, rfl, hc, h⟩ := h
  cases a with
  | none =>
    have hl : l = [] := by rcases h with h | ⟨g, o, e, _⟩; exact h; cases e
    subst hl
    clear h hF
    show Calls Tryz.prog 17 #[.slice none 0 c] w _
    have hq : ∀ W, (binOp .eql 22 (.slice none 0 c) (.slice none 0 0)).run Tryz.prog W = .ok (.bool true) W := fun W => Lib.run_eql_slice_nil W _ _ none 0 c 0 0 Tryz.underlying22
    go_enter Tryz.func17, Tryz.ntmps17
    go_wp2
    go_ret
    exact ⟨_, rfl, or_nil _ _, Below.refl _ _⟩
  | some a =>
    have hq := eql_nil a l.length c
    obtain ⟨v', W', hr, hbd⟩ := bd_app (bd_made w) (.slice (some a) l.length c) l (hF.below (bnew w _)) (by simpa using hn)
    have HB := hid_of hbd
    clear hbd hF h
    go_enter Tryz.func17, Tryz.ntmps17
    go_wp2_with (at_builtin; refine wpl_eq rfl _ _ 22 22 rfl (.slice (some ⟨w.heap.size, 0, none⟩) 0 0) (.slice (some a) l.length c) v' _ W' rfl rfl hr ?_)
    go_ret
    exact ⟨v', rfl, HB.out.row, HB.out.bel⟩
end Go.Proofs.YtighoelipihifabGreatDoor.Sorts
