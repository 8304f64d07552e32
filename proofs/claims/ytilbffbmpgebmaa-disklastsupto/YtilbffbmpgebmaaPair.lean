/- The code's disk and the document's, side by side. -/
import Derived.Test.YtilbffbmpgebmaaRefCrash
import Derived.Test.YtilbffbmpgebmaaRefSet
import Derived.Test.YtilbffbmpgebmaaRefTexts
import Derived.Test.YtilbffbmpgebmaaCrash2
import Derived.Test.YtilbffbmpgebmaaStep
namespace Go.Proofs.Ytilbffbmpgebmaa.Pair
open Go.RowKit Go.Maps
open Go.Proofs.Ytilbffbmpgebmaa.DiskMath
open Go.Proofs.Ytilbffbmpgebmaa.RefMath
open Go.Proofs.Ytilbffbmpgebmaa.Base
open Go.Proofs.Ytilbffbmpgebmaa.Small
open Go.Proofs.Ytilbffbmpgebmaa.File
open Go.Proofs.Ytilbffbmpgebmaa.File2
open Go.Proofs.Ytilbffbmpgebmaa.Crash
open Go.Proofs.Ytilbffbmpgebmaa.Plan2
open Go.Proofs.Ytilbffbmpgebmaa.RefBase
open Go.Proofs.Ytilbffbmpgebmaa.RefFiles
open Go.Proofs.Ytilbffbmpgebmaa.RefFiles2
open Go.Proofs.Ytilbffbmpgebmaa.RefOps2
open Go.Proofs.Ytilbffbmpgebmaa.RefTrunc
set_option linter.unusedVariables false

structure Iv (d : Dk) (n T : Nat) : Prop where
  con : Con d
  st : d.steps ≤ n
  fs : d.files.length ≤ d.steps
  bl : ∀ x ∈ d.files, x.1.length ≤ T
theorem Iv.more {d : Dk} {n T n' T' : Nat} (h : Iv d n T) (hn : n ≤ n') (hT : T ≤ T') : Iv d n' T' := ⟨h.con, Nat.le_trans h.st hn, h.fs, fun x hx => Nat.le_trans (h.bl x hx) hT⟩
theorem Iv.fault {d : Dk} {n T : Nat} (h : Iv d n T) : Iv d.fault.1 (n + 1) T := by
  obtain ⟨e1, e2, e3, e4, e5⟩ := fault_same d
  refine ⟨?_, by rw [e5]; have := h.st; omega, by rw [e1, e5]; have := h.fs; omega, by rw [e1]; exact h.bl⟩
  unfold Con
  rw [e2, e3, e4]
  exact h.con
theorem all_app (l : List Ch) (c : Ch) (n : NL) : applyAll (l ++ [c]) n = c.on (applyAll l n) := by unfold applyAll; rw [List.foldl_append]; rfl
theorem Iv.turn {d : Dk} {n T : Nat} (h : Iv d n T) (c : Ch) : Iv (d.turn c) n T := by
  refine ⟨?_, h.st, h.fs, h.bl⟩
  show c.on d.names = applyAll (d.opens ++ [c]) d.last
  rw [all_app, ← h.con]
theorem Iv.upd {d : Dk} {n T T' : Nat} (h : Iv d n T) (f : Nat) (g : Bs × Nat → Bs × Nat) (hT : T ≤ T') (hg : ∀ x, x.1.length ≤ T → (g x).1.length ≤ T') : Iv (d.upd f g) n T' := by
  refine ⟨h.con, h.st, ?_, fun x hx => ?_⟩
  · show (d.files.modify f g).length ≤ _
    rw [List.length_modify]
    exact h.fs
  · obtain ⟨j, hj⟩ := List.mem_iff_getElem?.1 (show x ∈ d.files.modify f g from hx)
    rw [List.getElem?_modify] at hj
    cases hq : d.files[j]? with
    | none => rw [hq] at hj; simp at hj
    | some y =>
      rw [hq] at hj
      have hy := h.bl y (List.mem_of_getElem? hq)
      by_cases he : f = j
      · simp [he] at hj; rw [← hj]; exact hg y hy
      · simp [he] at hj; rw [← hj]; exact Nat.le_trans hy hT
theorem Iv.create {d : Dk} {n T : Nat} (h : Iv d n T) (s : Bs) : Iv (d.create s).1 (n + 1) T := by
  unfold Dk.create
  split
  · exact h.more (Nat.le_succ _) (Nat.le_refl _)
  · split
    · exact h.more (Nat.le_succ _) (Nat.le_refl _)
    · show Iv (if _ then _ else _ : Dk × Int).1 _ _
      split
      · refine Iv.turn (d := { d.fault.1 with files := d.fault.1.files ++ [([], 0)] }) ⟨h.fault.con, h.fault.st, ?_, fun x hx => ?_⟩ _
        · show (d.fault.1.files ++ [([], 0)]).length ≤ d.fault.1.steps
          obtain ⟨e1, e2, e3, e4, e5⟩ := fault_same d
          rw [List.length_append, e1, e5]
          have := h.fs
          simp; omega
        · rcases List.mem_append.1 (show x ∈ d.fault.1.files ++ [([], 0)] from hx) with q | q
          · exact h.fault.bl x q
          · rw [List.mem_singleton.1 q]; exact Nat.zero_le _
      · exact h.fault
theorem Iv.append {d : Dk} {n T : Nat} (h : Iv d n T) (s u : Bs) : Iv (d.append s u).1 (n + 1) (T + u.length) := by
  unfold Dk.append
  split
  · exact h.more (Nat.le_succ _) (Nat.le_add_right _ _)
  · show Iv (d.fault.1.upd _ _) _ _
    refine h.fault.upd _ _ (Nat.le_add_right _ _) fun x hx => ?_
    show (x.1 ++ _).length ≤ _
    rw [List.length_append]
    have : ∀ k, (u.take k).length ≤ u.length := fun k => by rw [List.length_take]; omega
    split
    · omega
    · have := this (within d.fault.2.1 u.length); omega
theorem Iv.trunc {d : Dk} {n T : Nat} (h : Iv d n T) (s : Bs) (k : Int) : Iv (d.trunc s k).1 (n + 1) T := by
  unfold Dk.trunc
  split
  · exact h.more (Nat.le_succ _) (Nat.le_refl _)
  · show Iv (if _ then _ else _ : Dk × Int).1 _ _
    split
    · refine h.fault.upd _ _ (Nat.le_refl _) fun x hx => ?_
      show (x.1.take _).length ≤ _
      rw [List.length_take]; omega
    · exact h.fault
theorem Iv.sync {d : Dk} {n T : Nat} (h : Iv d n T) (s : Bs) : Iv (d.sync s).1 (n + 1) T := by
  unfold Dk.sync
  split
  · exact h.more (Nat.le_succ _) (Nat.le_refl _)
  · show Iv (if _ then _ else _ : Dk × Int).1 _ _
    split
    · exact h.fault.upd _ _ (Nat.le_refl _) fun x hx => hx
    · exact h.fault
theorem Iv.rename {d : Dk} {n T : Nat} (h : Iv d n T) (s t : Bs) : Iv (d.rename s t).1 (n + 1) T := by
  unfold Dk.rename
  split
  · exact h.more (Nat.le_succ _) (Nat.le_refl _)
  · split
    · exact h.more (Nat.le_succ _) (Nat.le_refl _)
    · show Iv (if _ then _ else _ : Dk × Int).1 _ _
      split
      · split
        · exact h.fault
        · exact h.fault.turn _
      · exact h.fault
theorem Iv.remove {d : Dk} {n T : Nat} (h : Iv d n T) (s : Bs) : Iv (d.remove s).1 (n + 1) T := by
  unfold Dk.remove
  split
  · exact h.more (Nat.le_succ _) (Nat.le_refl _)
  · show Iv (if _ then _ else _ : Dk × Int).1 _ _
    split
    · exact h.fault.turn _
    · exact h.fault
theorem Iv.syncNames {d : Dk} {n T : Nat} (h : Iv d n T) : Iv d.syncNames.1 (n + 1) T := by
  unfold Dk.syncNames
  split
  · exact h.more (Nat.le_succ _) (Nat.le_refl _)
  · show Iv (if _ then _ else _ : Dk × Int).1 _ _
    split
    · refine ⟨?_, h.fault.st, h.fault.fs, h.fault.bl⟩
      show d.fault.1.names = applyAll [] (applyAll (d.fault.1.opens.take d.fault.1.opens.length) d.fault.1.last)
      rw [List.take_length]
      exact h.fault.con
    · exact h.fault
theorem Iv.set {d : Dk} {n T : Nat} (h : Iv d n T) (l : List Ft) : Iv (setS d l).1 (n + 1) T := by
  unfold setS
  split
  · exact h.more (Nat.le_succ _) (Nat.le_refl _)
  · exact (Iv.mk h.con h.st h.fs h.bl : Iv { d with plan := l } n T).more (Nat.le_succ _) (Nat.le_refl _)
theorem crash_bl (bytes : List Int) {T : Nat} : ∀ (l : NL) (i : Nat) (fs : List (Bs × Nat)), (∀ x ∈ fs, x.1.length ≤ T) → ∀ x ∈ crashFiles bytes i l fs, x.1.length ≤ T
  | [], _, _, h => h
  | p :: r, i, fs, h => crash_bl bytes r (i + 1) _ fun x hx => by
    obtain ⟨j, hj⟩ := List.mem_iff_getElem?.1 hx
    rw [List.getElem?_modify] at hj
    cases hq : fs[j]? with
    | none => rw [hq] at hj; simp at hj
    | some y =>
      rw [hq] at hj
      have hy := h y (List.mem_of_getElem? hq)
      by_cases he : p.2 = j
      · simp [he] at hj
        rw [← hj]
        show (y.1.take _).length ≤ T
        rw [List.length_take]; omega
      · simp [he] at hj; rw [← hj]; exact hy
theorem Iv.crash {d : Dk} {n T : Nat} (h : Iv d n T) (cn : Int) (bytes : List Int) : Iv (d.crash cn bytes) (n + 1) T := by
  refine ⟨rfl, Nat.le_succ_of_le h.st, ?_, ?_⟩
  · show (crashFiles bytes 0 _ d.files).length ≤ d.steps
    rw [crash_len]
    exact h.fs
  · exact crash_bl bytes _ 0 _ h.bl
structure Pr (base b bd : Nat) (d : Dk) (n T : Nat) (w : World) : Prop where
  dk : Has base b d w
  rd : RHas base bd d w
  iv : Iv d n T
theorem Pr.below {base b bd : Nat} {d : Dk} {n T : Nat} {w w' : World} (h : Pr base b bd d n T w) (hb : Below w.heap.size w w') : Pr base b bd d n T w' := ⟨h.dk.below hb, h.rd.below hb, h.iv⟩
theorem Pr.ok {base b bd : Nat} {d : Dk} {n T : Nat} {w : World} (h : Pr base b bd d n T w) : Ok d := by
  obtain ⟨y, hy⟩ := h.dk
  exact hy.ok
theorem Pr.hb {base b bd : Nat} {d : Dk} {n T : Nat} {w : World} (h : Pr base b bd d n T w) : base ≤ w.heap.size := by
  obtain ⟨y, hy⟩ := h.dk
  exact hy.hb
theorem has_z {base b : Nat} {d : Dk} {w : World} (h : Has base b d w) : ∀ x ∈ d.files, x.2 ≤ x.1.length ∧ x.1.length ≤ 140737488355328 := by
  intro x hx
  obtain ⟨y, hy⟩ := h
  obtain ⟨i, hi⟩ := List.mem_iff_getElem?.1 hx
  have := hy.fl i x hi
  exact ⟨this.le, this.big⟩
/- the document's side stands behind a call of the code's, and the other way round -/
theorem rhas_code {base bd : Nat} {d : Dk} {w w' : World} (h : RHas base bd d w) (he : Ev DT base w w') : RHas base bd d w' := by
  obtain ⟨r, h⟩ := h
  exact ⟨r, h.code he⟩
theorem has_doc {base b : Nat} {d : Dk} {w w' : World} (h : Has base b d w) (he : Ev ET base w w') : Has base b d w' := by
  obtain ⟨y, h⟩ := h
  exact ⟨y, h.keep he (fun n hn => et_dt hn)⟩
theorem Pr.go {base b bd : Nat} {d' : Dk} {n T : Nat} {w w1 w2 : World} (hb : base ≤ w.heap.size) (h1 : Has base b d' w1) (e1 : Ev DT base w w1) (h2 : RHas base bd d' w2) (e2 : Ev ET base w1 w2) (iv : Iv d' n T) : Pr base b bd d' n T w2 ∧ Below base w w2 :=
  ⟨⟨has_doc h1 e2, h2, iv⟩, (e1.below hb).trans (e2.below (Nat.le_trans hb e1.size))⟩
/- the deed in its box -/
structure Bx (w : World) (cs : Array Value) (W : World) : Prop where
  blk : W.heap[w.heap.size]? = some (.cells cs 38 (0, 0))
theorem Bx.ev {w : World} {cs : Array Value} {W W' : World} {T : Nat → Bool} {base : Nat} (h : Bx w cs W) (he : Ev T base W W') (ht : T 40 = false) : Bx w cs W' := ⟨(he.block _ (lt_of h.blk) (Or.inr (by rw [kd_cells h.blk]; exact ht))).trans h.blk⟩
theorem Bx.cell {w : World} {cs : Array Value} {W : World} (h : Bx w cs W) (i : Nat) : W.cell? ⟨w.heap.size, i, none⟩ = cs[i]? := Lib.cell_of_heap h.blk i
theorem int_same (x : Int) : (x == x) = true := by simp
end Go.Proofs.Ytilbffbmpgebmaa.Pair
