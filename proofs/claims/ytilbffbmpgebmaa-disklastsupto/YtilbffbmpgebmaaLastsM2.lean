/- What a crash, an append and a sync leave of the files that the names lead to. -/
import Derived.Test.YtilbffbmpgebmaaLastsM
namespace Go.Proofs.Ytilbffbmpgebmaa.LastsM2
open Go.Maps
open Go.Proofs.Ytilbffbmpgebmaa.DiskMath
open Go.Proofs.Ytilbffbmpgebmaa.RefMath
open Go.Proofs.Ytilbffbmpgebmaa.Base
open Go.Proofs.Ytilbffbmpgebmaa.File
open Go.Proofs.Ytilbffbmpgebmaa.RefOps2
open Go.Proofs.Ytilbffbmpgebmaa.Pair
open Go.Proofs.Ytilbffbmpgebmaa.LastsM
set_option linter.unusedVariables false

theorem lkp_at : ∀ {l : NL}, Rise l → ∀ {p : Bs × Nat}, p ∈ l → lkp l p.1 = some p.2
  | [], _, _, h => by cases h
  | y :: r, hr, p, h => by
    unfold Rise at hr
    rw [List.pairwise_cons] at hr
    unfold lkp
    rw [List.find?_cons]
    by_cases e : y.1 = p.1
    · have hy : p = y := by
        rcases List.mem_cons.1 h with h1 | h1
        · exact h1
        · have := hr.1 p h1
          rw [e, before_irr] at this
          cases this
      rw [show (y.1 == p.1) = true from by simp [e]]
      rw [hy]
      rfl
    · rw [show (y.1 == p.1) = false from by simp [e]]
      rcases List.mem_cons.1 h with h1 | h1
      · rw [h1] at e; exact absurd rfl e
      · exact lkp_at hr.2 h1
theorem mod_ne {fs : List (Bs × Nat)} {f j : Nat} (g : Bs × Nat → Bs × Nat) (h : f ≠ j) : (fs.modify f g)[j]? = fs[j]? := by rw [List.getElem?_modify]; simp [h]
theorem mod_eq {fs : List (Bs × Nat)} {f : Nat} (g : Bs × Nat → Bs × Nat) : (fs.modify f g)[f]? = (fs[f]?).map g := by rw [List.getElem?_modify]; simp
/- a file that no name of the list leads to stands -/
theorem crash_out (bytes : List Int) : ∀ (l : NL) (i : Nat) (fs : List (Bs × Nat)) (f : Nat), (∀ p ∈ l, p.2 ≠ f) → (crashFiles bytes i l fs)[f]? = fs[f]?
  | [], _, _, _, _ => rfl
  | p :: r, i, fs, f, h => by
    show (crashFiles bytes (i + 1) r (fs.modify p.2 (crashF (outl bytes i))))[f]? = _
    rw [crash_out bytes r (i + 1) _ f (fun q hq => h q (List.mem_cons_of_mem _ hq)), mod_ne _ (h p (List.mem_cons_self ..))]
theorem crash_at (bytes : List Int) : ∀ (l : NL) (i : Nat) (fs : List (Bs × Nat)), Nd l → ∀ (j : Nat) (hj : j < l.length), (crashFiles bytes i l fs)[(l[j]).2]? = (fs[(l[j]).2]?).map (crashF (outl bytes (i + j)))
  | [], _, _, _, _, hj => by cases hj
  | p :: r, i, fs, hn, j, hj => by
    unfold Nd at hn
    rw [List.map_cons, List.nodup_cons] at hn
    show (crashFiles bytes (i + 1) r (fs.modify p.2 (crashF (outl bytes i))))[_]? = _
    cases j with
    | zero =>
      show (crashFiles bytes (i + 1) r (fs.modify p.2 (crashF (outl bytes i))))[p.2]? = (fs[p.2]?).map _
      rw [crash_out bytes r (i + 1) _ p.2 (fun q hq e => hn.1 (List.mem_map.2 ⟨q, hq, e⟩)), mod_eq, Nat.add_zero]
    | succ j =>
      have hj' : j < r.length := by simpa using hj
      have ih := crash_at bytes r (i + 1) (fs.modify p.2 (crashF (outl bytes i))) hn.2 j hj'
      show (crashFiles bytes (i + 1) r (fs.modify p.2 (crashF (outl bytes i))))[(r[j]).2]? = (fs[(r[j]).2]?).map _
      rw [ih, mod_ne _ (fun e => hn.1 (List.mem_map.2 ⟨r[j], List.getElem_mem hj', e.symm⟩)), show i + 1 + j = i + (j + 1) from by omega]
/- the files that the names lead to: their whole texts, and what of each is synced -/
structure Ls (d : Dk) (NN : NL) (wh ss : List Bs) : Prop where
  down : d.down = false
  plan : d.plan = []
  opens : d.opens = []
  names : d.names = NN
  last : d.last = NN
  nd : Nd NN
  rise : Rise NN
  keys : ∀ p ∈ NN, p.1 ≠ []
  wl : wh.length = NN.length
  sl : ss.length = NN.length
  at_ : ∀ i (h : i < NN.length), d.files[(NN[i]).2]? = some (wh[i]'(by omega), (ss[i]'(by omega)).length) ∧ ss[i]'(by omega) = (wh[i]'(by omega)).take (ss[i]'(by omega)).length
theorem Ls.asked {d : Dk} {NN : NL} {wh ss : List Bs} (h : Ls d NN wh ss) (i : Nat) (hi : i < NN.length) : d.asked (NN[i]).1 = 0 ∧ d.file (NN[i]).1 = (NN[i]).2 := by
  have hm := List.getElem_mem hi
  have hl : lkp d.names (NN[i]).1 = some (NN[i]).2 := by rw [h.names]; exact lkp_at h.rise hm
  constructor
  · unfold Dk.asked
    rw [h.down, if_neg (by decide), if_neg (h.keys _ hm), hl]
  · unfold Dk.file
    rw [hl]
    rfl
theorem Ls.read {d : Dk} {NN : NL} {wh ss : List Bs} (h : Ls d NN wh ss) (i : Nat) (hi : i < NN.length) : d.read (NN[i]).1 = (wh[i]'(by have := h.wl; omega), 0) := by
  obtain ⟨h1, h2⟩ := h.asked i hi
  unfold Dk.read
  rw [h1, if_neg (by decide), h2, (h.at_ i hi).1]
  rfl
theorem Ls.synced {d : Dk} {NN : NL} {wh ss : List Bs} (h : Ls d NN wh ss) (i : Nat) (hi : i < NN.length) : d.synced (NN[i]).1 = (((ss[i]'(by have := h.sl; omega)).length : Int), 0) := by
  obtain ⟨h1, h2⟩ := h.asked i hi
  unfold Dk.synced
  rw [h1, if_neg (by decide), h2, (h.at_ i hi).1]
  rfl
theorem Ls.fault {d : Dk} {NN : NL} {wh ss : List Bs} (h : Ls d NN wh ss) : d.fault = ({ d with steps := d.steps + 1 }, 0, 0) := by
  unfold Dk.fault
  rw [h.plan]
theorem nd_at {NN : NL} (h : Nd NN) {i j : Nat} (hi : i < NN.length) (hj : j < NN.length) (e : (NN[i]).2 = (NN[j]).2) : i = j := by
  have hp := List.pairwise_iff_getElem.1 h
  rcases Nat.lt_trichotomy i j with h1 | h1 | h1
  · exact absurd (by rw [List.getElem_map, List.getElem_map]; exact e) (hp i j (by simpa using hi) (by simpa using hj) h1)
  · exact h1
  · exact absurd (by rw [List.getElem_map, List.getElem_map]; exact e.symm) (hp j i (by simpa using hj) (by simpa using hi) h1)
theorem Ls.append {d : Dk} {NN : NL} {wh ss : List Bs} (h : Ls d NN wh ss) (k : Nat) (hk : k < NN.length) (u : Bs) :
    (d.append (NN[k]).1 u).2 = ((u.length : Int), 0) ∧ Ls (d.append (NN[k]).1 u).1 NN (wh.set k ((wh[k]'(by have := h.wl; omega)) ++ u)) ss := by
  obtain ⟨h1, h2⟩ := h.asked k hk
  have e : d.append (NN[k]).1 u = (({ d with steps := d.steps + 1 } : Dk).upd (NN[k]).2 (fun x => (x.1 ++ u, x.2)), (u.length : Int), 0) := by
    unfold Dk.append
    rw [h1, if_neg (by decide), h.fault, h2]
    rfl
  rw [e]
  have hwl := h.wl
  have hsl := h.sl
  refine ⟨rfl, ⟨h.down, h.plan, h.opens, h.names, h.last, h.nd, h.rise, h.keys, by rw [List.length_set]; exact hwl, hsl, fun i hi => ?_⟩⟩
  obtain ⟨q1, q2⟩ := h.at_ i hi
  show (d.files.modify (NN[k]).2 (fun x => (x.1 ++ u, x.2)))[(NN[i]).2]? = _ ∧ _
  by_cases hik : k = i
  · subst hik
    rw [mod_eq, q1]
    simp only [List.getElem_set_self]
    refine ⟨rfl, ?_⟩
    have hle : (ss[k]'(by omega)).length ≤ (wh[k]'(by omega)).length := by
      have := congrArg List.length q2
      rw [List.length_take] at this
      omega
    rw [List.take_append_of_le_length hle]
    exact q2
  · rw [mod_ne _ (fun e => hik (nd_at h.nd hk hi e)), q1]
    simp only [List.getElem_set_ne hik]
    exact ⟨trivial, q2⟩
theorem Ls.sync {d : Dk} {NN : NL} {wh ss : List Bs} (h : Ls d NN wh ss) (k : Nat) (hk : k < NN.length) :
    (d.sync (NN[k]).1).2 = 0 ∧ Ls (d.sync (NN[k]).1).1 NN wh (ss.set k (wh[k]'(by have := h.wl; omega))) := by
  obtain ⟨h1, h2⟩ := h.asked k hk
  have e : d.sync (NN[k]).1 = (({ d with steps := d.steps + 1 } : Dk).upd (NN[k]).2 syncF, 0) := by
    unfold Dk.sync
    rw [h1, if_neg (by decide), h.fault, h2]
    rfl
  rw [e]
  have hwl := h.wl
  have hsl := h.sl
  refine ⟨rfl, ⟨h.down, h.plan, h.opens, h.names, h.last, h.nd, h.rise, h.keys, hwl, by rw [List.length_set]; exact hsl, fun i hi => ?_⟩⟩
  obtain ⟨q1, q2⟩ := h.at_ i hi
  show (d.files.modify (NN[k]).2 syncF)[(NN[i]).2]? = _ ∧ _
  by_cases hik : k = i
  · subst hik
    rw [mod_eq, q1]
    simp only [List.getElem_set_self]
    exact ⟨rfl, by rw [List.take_length]⟩
  · rw [mod_ne _ (fun e => hik (nd_at h.nd hk hi e)), q1]
    simp only [List.getElem_set_ne hik]
    exact ⟨trivial, q2⟩
/- what a crash leaves of the i-th file -/
def leftOf (bytes : List Int) (wh ss : List Bs) (i : Nat) : Bs := (wh.getD i []).take ((ss.getD i []).length + within (outl bytes i) ((wh.getD i []).length - (ss.getD i []).length))
theorem Ls.crash {d : Dk} {NN : NL} {wh ss : List Bs} (h : Ls d NN wh ss) (cn : Int) (bytes : List Int) : Ls (d.crash cn bytes) NN ((List.range NN.length).map (leftOf bytes wh ss)) ((List.range NN.length).map (leftOf bytes wh ss)) := by
  have hl : applyAll (d.opens.take (within cn d.opens.length)) d.last = NN := by rw [h.opens, List.take_nil, h.last]; rfl
  have hwl := h.wl
  have hsl := h.sl
  refine ⟨rfl, rfl, rfl, hl, hl, h.nd, h.rise, h.keys, by simp, by simp, fun i hi => ?_⟩
  obtain ⟨q1, q2⟩ := h.at_ i hi
  show (crashFiles bytes 0 (applyAll (d.opens.take (within cn d.opens.length)) d.last) d.files)[(NN[i]).2]? = _ ∧ _
  rw [hl, crash_at bytes NN 0 d.files h.nd i hi, q1, Nat.zero_add]
  simp only [List.getElem_map, List.getElem_range, List.take_length, and_true]
  have e1 : wh.getD i [] = wh[i]'(by omega) := by rw [List.getD_eq_getElem?_getD, List.getElem?_eq_getElem (by omega)]; rfl
  have e2 : ss.getD i [] = ss[i]'(by omega) := by rw [List.getD_eq_getElem?_getD, List.getElem?_eq_getElem (by omega)]; rfl
  unfold leftOf
  rw [e1, e2]
  rfl
end Go.Proofs.Ytilbffbmpgebmaa.LastsM2
