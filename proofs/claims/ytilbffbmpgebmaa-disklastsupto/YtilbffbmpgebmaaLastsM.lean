/- No two names lead to one file, whatever a crash keeps of the open changes. -/
import Derived.Test.YtilbffbmpgebmaaDeeds
namespace Go.Proofs.Ytilbffbmpgebmaa.LastsM
open Go.Proofs.Ytilbffbmpgebmaa.DiskMath
open Go.Proofs.Ytilbffbmpgebmaa.RefMath
open Go.Proofs.Ytilbffbmpgebmaa.Base
open Go.Proofs.Ytilbffbmpgebmaa.File
open Go.Proofs.Ytilbffbmpgebmaa.Plan2
open Go.Proofs.Ytilbffbmpgebmaa.RefOps2
open Go.Proofs.Ytilbffbmpgebmaa.RefTrunc
open Go.Proofs.Ytilbffbmpgebmaa.Pair
open Go.Proofs.Ytilbffbmpgebmaa.Deeds
set_option linter.unusedVariables false

def Nd (l : NL) : Prop := (l.map (·.2)).Nodup
theorem nd_wout {l : NL} (h : Nd l) (k : Bs) : Nd (wout l k) := List.Nodup.sublist (List.Sublist.map _ List.filter_sublist) h
theorem ins_perm (x : Bs × Nat) : ∀ l : NL, (insL x l).Perm (x :: l)
  | [] => List.Perm.refl _
  | y :: r => by
    unfold insL
    split
    · exact List.Perm.refl _
    · exact ((ins_perm x r).cons y).trans (List.Perm.swap x y r)
theorem nd_ins {x : Bs × Nat} {l : NL} (h : Nd l) (hx : ∀ p ∈ l, p.2 ≠ x.2) : Nd (insL x l) := by
  unfold Nd
  rw [((ins_perm x l).map _).nodup_iff, List.map_cons, List.nodup_cons]
  refine ⟨fun hm => ?_, h⟩
  obtain ⟨p, hp, e⟩ := List.mem_map.1 hm
  exact hx p hp e
theorem nd_inj : ∀ {l : NL}, Nd l → ∀ {p q : Bs × Nat}, p ∈ l → q ∈ l → p.2 = q.2 → p = q
  | [], _, _, _, hp, _, _ => by cases hp
  | y :: r, h, p, q, hp, hq, e => by
    unfold Nd at h
    rw [List.map_cons, List.nodup_cons] at h
    rcases List.mem_cons.1 hp with h1 | h1 <;> rcases List.mem_cons.1 hq with h2 | h2
    · rw [h1, h2]
    · exact absurd (List.mem_map.2 ⟨q, h2, by rw [← e, h1]⟩) h.1
    · exact absurd (List.mem_map.2 ⟨p, h1, by rw [e, h2]⟩) h.1
    · exact nd_inj h.2 h1 h2 e
def J (d : Dk) : Prop := ∀ m, Nd (applyAll (d.opens.take m) d.last)
theorem j_names {d : Dk} (c : Con d) (h : J d) : Nd d.names := by
  have := h d.opens.length
  rw [List.take_length] at this
  rw [c]
  exact this
theorem j_same {d e : Dk} (h : J d) (h1 : e.opens = d.opens) (h2 : e.last = d.last) : J e := by unfold J; rw [h1, h2]; exact h
theorem j_turn {d : Dk} {c : Ch} (h : J d) (con : Con d) (hn : Nd (c.on d.names)) : J (d.turn c) := by
  intro m
  show Nd (applyAll ((d.opens ++ [c]).take m) d.last)
  by_cases hm : m ≤ d.opens.length
  · rw [List.take_append_of_le_length hm]; exact h m
  · rw [List.take_of_length_le (by simp; omega), all_app, ← con]
    exact hn
theorem j_fault {d : Dk} (h : J d) : J d.fault.1 := by
  obtain ⟨e1, e2, e3, e4, e5⟩ := fault_same d
  exact j_same h e4 e3
theorem con_fault {d : Dk} (h : Con d) : Con d.fault.1 := by
  obtain ⟨e1, e2, e3, e4, e5⟩ := fault_same d
  unfold Con
  rw [e2, e3, e4]
  exact h
theorem j_create {d : Dk} (ok : Ok d) (con : Con d) (h : J d) (n : Bs) : J (d.create n).1 := by
  unfold Dk.create
  split
  · exact h
  · split
    · exact h
    · dsimp only
      split
      · refine j_turn (d := { d.fault.1 with files := d.fault.1.files ++ [([], 0)] }) (j_fault h) (con_fault con) ?_
        show Nd (withL d.fault.1.names n d.fault.1.files.length)
        obtain ⟨e1, e2, e3, e4, e5⟩ := fault_same d
        rw [e1, e2]
        exact nd_ins (nd_wout (j_names con h) n) (fun p hp => Nat.ne_of_lt (ok.names.ids p (wout_mem hp)))
      · exact j_fault h
theorem j_upd {d : Dk} (h : J d) (f : Nat) (g : Bs × Nat → Bs × Nat) : J (d.upd f g) := h
theorem j_append {d : Dk} (h : J d) (n s : Bs) : J (d.append n s).1 := by
  unfold Dk.append
  split
  · exact h
  · exact j_fault h
theorem j_trunc {d : Dk} (h : J d) (n : Bs) (k : Int) : J (d.trunc n k).1 := by
  unfold Dk.trunc
  split
  · exact h
  · dsimp only
    split <;> exact j_fault h
theorem j_sync {d : Dk} (h : J d) (n : Bs) : J (d.sync n).1 := by
  unfold Dk.sync
  split
  · exact h
  · dsimp only
    split <;> exact j_fault h
theorem file_mem {d : Dk} {a : Bs} (h : d.asked a = 0) : (a, d.file a) ∈ d.names := by
  unfold Dk.asked at h
  split at h
  · cases h
  · split at h
    · cases h
    · cases hq : lkp d.names a with
      | none => rw [hq] at h; cases h
      | some f =>
        unfold Dk.file
        rw [hq]
        exact lkp_mem hq
theorem j_rename {d : Dk} (con : Con d) (h : J d) (a b : Bs) : J (d.rename a b).1 := by
  unfold Dk.rename
  split
  · exact h
  · split
    · exact h
    · rename_i h0 h1
      have hm := file_mem (show d.asked a = 0 by omega)
      dsimp only
      split
      · split
        · exact j_fault h
        · refine j_turn (j_fault h) (con_fault con) ?_
          show Nd (withL (wout d.fault.1.names a) b (d.file a))
          obtain ⟨e1, e2, e3, e4, e5⟩ := fault_same d
          rw [e2]
          have hn := j_names con h
          refine nd_ins (nd_wout (nd_wout hn a) b) (fun p hp e => ?_)
          have hp1 := wout_mem hp
          exact wout_ne hp1 (congrArg Prod.fst (nd_inj hn (wout_mem hp1) hm e))
      · exact j_fault h
theorem j_remove {d : Dk} (con : Con d) (h : J d) (n : Bs) : J (d.remove n).1 := by
  unfold Dk.remove
  split
  · exact h
  · dsimp only
    split
    · refine j_turn (j_fault h) (con_fault con) ?_
      show Nd (wout d.fault.1.names n)
      obtain ⟨e1, e2, e3, e4, e5⟩ := fault_same d
      rw [e2]
      exact nd_wout (j_names con h) n
    · exact j_fault h
theorem j_done {d : Dk} (h1 : d.opens = []) (h2 : Nd d.last) : J d := fun m => by
  rw [h1, List.take_nil]
  exact h2
theorem j_syncNames {d : Dk} (h : J d) : J d.syncNames.1 := by
  unfold Dk.syncNames
  split
  · exact h
  · dsimp only
    split
    · exact j_done rfl (j_fault h _)
    · exact j_fault h
theorem j_crash {d : Dk} (h : J d) (cn : Int) (bytes : List Int) : J (d.crash cn bytes) := j_done rfl (h _)
theorem j_set {d : Dk} (h : J d) (l : List Ft) : J (setS d l).1 := by
  unfold setS
  split
  · exact h
  · exact h
theorem j_do {d : Dk} (x : DD) (ok : Ok d) (con : Con d) (h : J d) : J (doS x d) := by
  unfold doS
  split
  · exact j_create ok con h _
  split
  · exact j_append h _ _
  split
  · exact j_trunc h _ _
  split
  · exact j_sync h _
  split
  · exact j_rename con h _ _
  split
  · exact j_remove con h _
  split
  · exact j_syncNames h
  split
  · exact j_set h _
  split
  · exact j_crash h _ _
  · exact h
theorem j_new : J new := j_done rfl List.nodup_nil
end Go.Proofs.Ytilbffbmpgebmaa.LastsM
