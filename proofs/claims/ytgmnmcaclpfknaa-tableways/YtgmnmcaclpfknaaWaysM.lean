/- TableWays: what is asked of each row, and the requests that are made of it. -/
import Derived.Test.YtgmnmcaclpfknaaKeys
import Derived.Test.YtgmnmcaclpfknaaSortC
namespace Go.Proofs.Ytgmnmcaclpfknaa.WaysM
open Go.Proofs.Ytgmnmcaclpfknaa.Tab
open Go.Proofs.Ytgmnmcaclpfknaa.Base
open Go.Proofs.Ytgmnmcaclpfknaa.Low
open Go.Proofs.Ytgmnmcaclpfknaa.FindP
open Go.Proofs.Ytgmnmcaclpfknaa.RFind
open Go.Proofs.Ytgmnmcaclpfknaa.RowOf
open Go.Proofs.Ytgmnmcaclpfknaa.Keys
set_option linter.unusedVariables false
set_option linter.unusedSimpArgs false
/- every second letter a great one -/
def upK (l : Tab.Bs) : Nat → Tab.Bs
  | 0 => l
  | j + 1 => (upK l j).set (2 * j) (l.getD (2 * j) 0 - 32)
theorem upK_len (l : Tab.Bs) : ∀ j, (upK l j).length = l.length
  | 0 => rfl
  | j + 1 => by unfold upK; rw [List.length_set]; exact upK_len l j
theorem upK_at (l : Tab.Bs) : ∀ j k, 2 * j ≤ k → (upK l j)[k]? = l[k]?
  | 0, k, _ => rfl
  | j + 1, k, h => by
    unfold upK
    rw [List.getElem?_set_ne (by omega)]
    exact upK_at l j k (by omega)
def up (r : Sc) : Tab.Bs := upK r.name ((r.name.length + 1) / 2)
def nOf (r : Sc) : Nat := r.arity.natAbs
theorem doc_up : docRows.all (fun r => (up r).map low == r.name && r.name.map low == r.name) = true := by decide +kernel
theorem doc_okK : docRows.all okK = true := by decide +kernel
theorem doc_F : docRows.all (fun r => decide (r.first = 0 ∨ r.first ≤ lastK r (nOf r))) = true := by decide +kernel
theorem doc_name : docRows.all (fun r => r.name.all (fun c => decide (32 ≤ c.toNat))) = true := by decide +kernel
def argsK (r : Sc) (ws : List Tab.Bs) (k : Nat) : List Tab.Bs := r.name :: (List.range k).map (fun i => ws.getD i [119])
theorem argsK_len (r : Sc) (ws : List Tab.Bs) (k : Nat) : (argsK r ws k).length = k + 1 := by simp [argsK]
theorem argsK_succ (r : Sc) (ws : List Tab.Bs) (k : Nat) : argsK r ws (k + 1) = argsK r ws k ++ [ws.getD k [119]] := by
  unfold argsK
  rw [List.range_succ, List.map_append, List.cons_append]
  rfl
theorem ok_r {r : Sc} (hr : r ∈ docRows) : okB r = true := List.all_eq_true.1 doc_ok r hr
theorem okk_r {r : Sc} (hr : r ∈ docRows) : okK r = true := List.all_eq_true.1 doc_okK r hr
theorem low_up {r : Sc} (hr : r ∈ docRows) : (up r).map low = r.name := by
  have := List.all_eq_true.1 doc_up r hr
  simp only [Bool.and_eq_true, beq_iff_eq] at this
  exact this.1
theorem low_name {r : Sc} (hr : r ∈ docRows) : r.name.map low = r.name := by
  have := List.all_eq_true.1 doc_up r hr
  simp only [Bool.and_eq_true, beq_iff_eq] at this
  exact this.2
theorem fnd_r {r : Sc} (hr : r ∈ docRows) : fnd r.name = (r, true) := by
  rw [fnd_doc, of_decide_eq_true (List.all_eq_true.1 SortC.self_in r hr)]
theorem n_pos {r : Sc} (hr : r ∈ docRows) : 1 ≤ nOf r ∧ nOf r ≤ 5 := by
  have := ok_of (ok_r hr)
  unfold nOf
  omega
theorem good_of {r : Sc} (hr : r ∈ docRows) {l : List Tab.Bs} (hn : (nameOf l).map low = r.name) (hl : l.length = nOf r) : Keys.Good l r := by
  have hf : fitsB r.arity l.length = true := by
    unfold fitsB
    rw [hl]
    unfold nOf
    split
    · exact decide_eq_true (by omega)
    · exact decide_eq_true (by omega)
  have h1 : fnd ((nameOf l).map low) = (r, true) := by rw [hn]; exact fnd_r hr
  exact ⟨by unfold rowS; rw [h1]; simp [hf], ok_r hr, okk_r hr, h1, hf⟩
theorem few {r : Sc} (hr : r ∈ docRows) {l : List Tab.Bs} (hn : (nameOf l).map low = r.name) (hl : l.length + 1 = nOf r) : checkS l = art ++ r.name := by
  have hf : fitsB r.arity l.length = false := by
    unfold fitsB
    unfold nOf at hl
    split
    · exact decide_eq_false (by omega)
    · exact decide_eq_false (by omega)
  have h1 : fnd ((nameOf l).map low) = (r, true) := by rw [hn]; exact fnd_r hr
  unfold checkS rowS
  rw [h1]
  simp [hf]
theorem keys_pos {r : Sc} (hr : r ∈ docRows) {l : List Tab.Bs} (G : Keys.Good l r) (hl : l.length = nOf r) : (0 < (keysS l).length) ↔ (0 < r.first) := by
  rw [G.keys]
  have h0 := ok_of (ok_r hr)
  by_cases hf : r.first = 0
  · rw [if_neg (by simpa using hf)]
    simp [hf]
  · rw [if_pos hf, picks_len]
    have hq := G.last hf
    have h2 := (of_decide_eq_true (List.all_eq_true.1 doc_F r hr)).resolve_left hf
    have h3 := (cnt_iff (F := r.first.toNat) (S := r.step.toNat) (la := lastK r l.length) (by omega) 0).2 (by rw [hl]; omega)
    omega
theorem keys_mem {l : List Tab.Bs} {r : Sc} (G : Keys.Good l r) : ∀ x ∈ keysS l, x ∈ l.drop 1 := fun x hx => by
  rw [G.keys] at hx
  split at hx
  · rename_i hf
    have hq := G.last hf
    unfold picks at hx
    obtain ⟨j, hj, rfl⟩ := List.mem_map.1 hx
    have h1 := (cnt_iff (F := r.first.toNat) (S := r.step.toNat) (la := lastK r l.length) (by omega) j).1 (List.mem_range.1 hj)
    obtain ⟨i, hi⟩ : ∃ i, i = r.first.toNat + j * r.step.toNat := ⟨_, rfl⟩
    rw [← hi] at h1 ⊢
    have hil : i < l.length := by omega
    have hi1 : 1 ≤ i := by omega
    rw [List.getD_eq_getElem?_getD, List.getElem?_eq_getElem hil]
    refine List.mem_iff_getElem?.2 ⟨i - 1, ?_⟩
    rw [List.getElem?_drop, show 1 + (i - 1) = i by omega]
    exact List.getElem?_eq_getElem hil
  · cases hx
theorem keys_set {l : List Tab.Bs} {r : Sc} {x : Tab.Bs} (G : Keys.Good l r) (G' : Keys.Good (l.set 0 x) r) : keysS (l.set 0 x) = keysS l := by
  rw [G.keys, G'.keys, List.length_set]
  split
  · rename_i hf
    have hq := G.last hf
    unfold picks
    apply List.map_congr_left
    intro j _
    rw [List.getD_eq_getElem?_getD, List.getD_eq_getElem?_getD, List.getElem?_set_ne (by omega)]
  · rfl
theorem check_nil : checkS [] = unk := by
  have h : fnd ([] : Tab.Bs) = (noSc, false) := by
    unfold fnd
    rw [show findR [] = none from by decide +kernel]
  unfold checkS rowS
  rw [show (nameOf []).map low = ([] : Tab.Bs) from rfl, h]
  rfl
end Go.Proofs.Ytgmnmcaclpfknaa.WaysM
