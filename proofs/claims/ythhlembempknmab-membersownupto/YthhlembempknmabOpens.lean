/- From what lists of texts read as to their cells, and how much they hold. -/
import Derived.Test.YthhlembempknmabLists
import Derived.Test.YthhlembempknmabRows
import Derived.SliceStrings
import Derived.Deep.Slices
namespace Go.Proofs.Ythhlembempknmab.Opens
open Go.ChangeShapes Go.WideShapes Go.RowKit
open Go.Proofs.Ythhlembempknmab.SetMath
open Go.Proofs.Ythhlembempknmab.Base
open Go.Proofs.Ythhlembempknmab.Lists
set_option linter.unusedVariables false
theorem cells9 : Try.prog.cellsOf 9 = 1 := by kernel_rfl
theorem bytes9 : Try.prog.bytesOf 9 = 16 := by kernel_rfl
theorem cells22 : Try.prog.cellsOf 22 = 1 := by kernel_rfl
theorem spot_none {w : World} {a : Addr} {v : Value} (h : w.cell? a = some v) : a.spot = none := by
  unfold World.cell? at h
  rcases hh : w.heap[a.block]? with _ | o
  · rw [hh] at h; cases h
  · rw [hh] at h
    cases o with
    | cells c ty fz =>
      cases hs : a.spot with
      | none => rfl
      | some s => simp [hs] at h
    | _ => cases h
theorem add_of {a : Addr} (h : a.spot = none) (k : Nat) : a.add k = ⟨a.block, a.off + k, none⟩ := by
  obtain ⟨b, o, s⟩ := a
  obtain rfl : s = none := h
  exact Addr.add_lit b o k
theorem bulk_one {H : Type} (d : DataW H) : 1 ≤ Rows.uptoBulk d := by
  cases d with
  | lit l => cases l <;> simp only [Rows.uptoBulk] <;> omega
  | _ => simp only [Rows.uptoBulk] <;> omega
theorem bulk_len {H : Type} : ∀ l : List (DataW H), l.length ≤ Rows.uptoBulkAll l
  | [] => Nat.zero_le _
  | d :: l => by
    have := bulk_len l
    have := bulk_one d
    rw [List.length_cons, Rows.uptoBulkAll]
    omega
theorem bulk_sum {H : Type} : ∀ (l : List (DataW H)) (f : Nat → Nat), (∀ i (h : i < l.length), f i ≤ Rows.uptoBulk l[i]) → ((List.range l.length).map f).sum ≤ Rows.uptoBulkAll l
  | [], f, h => Nat.zero_le _
  | d :: l, f, h => by
    have ih := bulk_sum l (fun i => f (i + 1)) (fun i hi => h (i + 1) (Nat.succ_lt_succ hi))
    have h0 : f 0 ≤ Rows.uptoBulk d := h 0 (Nat.succ_pos _)
    rw [List.length_cons, List.range_succ_eq_map, List.map_cons, List.sum_cons, List.map_map, Rows.uptoBulkAll]
    have e : (List.range l.length).map (f ∘ Nat.succ) = (List.range l.length).map (fun i => f (i + 1)) := rfl
    rw [e]
    omega
theorem cells_one {w : World} {a : Addr} {cs : List Value} (h : w.cells? 0 a 1 = some cs) : ∃ v, cs = [v] ∧ w.cell? a = some v := by
  unfold World.cells? at h
  rw [if_pos (Nat.zero_le _)] at h
  simp only [List.range_succ, List.range_zero, List.nil_append, List.mapM_cons, List.mapM_nil] at h
  have e : a.add 0 = a := by simp [Addr.add]
  rw [e] at h
  cases hc : w.cell? a with
  | none => rw [hc] at h; simp at h
  | some v => rw [hc] at h; simp at h; exact ⟨v, h.symm, rfl⟩
section
variable {H : Type} {enc : TypeId × Value → H} {w : World} {fuel : Nat} {c : Value} {x : DataW H × List MemPlace}
theorem open_strs (h : DataW.trod enc Try.prog w 0 (fun _ => true) true fuel 22 [c] = some x) :
    ∃ l : List Bs, SL (fun k => k < w.heap.size) w c l ∧ l.length + 1 ≤ Rows.uptoBulk x.1 ∧ ((∀ n ∈ x.1.weights Try.prog 22, n ≤ reachBytes) → l.length * 16 ≤ 140737488351232) := by
  rcases open_strings Try.underlying22 Try.underlying9 cells9 h with ⟨e, rfl⟩ | ⟨a, len, cap, ss, e, -, hlc, hm, hz, rfl, hat, hwf⟩
  · cases e
    exact ⟨[], SL.nil _ _, bulk_one _, fun _ => by simp⟩
  · cases e
    have hl : len ≤ ss.length := by rw [hz]; simp; exact hlc
    have hlen : ((ss.take len).map bs).length = len := by rw [List.length_map, List.length_take]; omega
    refine ⟨(ss.take len).map bs, ⟨some a, cap, by rw [hlen], by rw [hlen]; exact hlc, Rd.mono (G := fun k => True ∧ k < w.heap.size) (Rd.lt ?_) fun k _ e => e.2⟩, ?_, fun hx => ?_⟩
    · by_cases h0 : len = 0
      · left; rw [h0]; rfl
      · right
        have hsp := spot_none (hat 0 (by omega))
        have hs : a.spot = none := by simpa [Addr.add] using hsp
        refine ⟨a.block, a.off, by obtain ⟨b, o, s⟩ := a; obtain rfl : s = none := hs; rfl, trivial, fun j y hj => ?_⟩
        have hj1 : j < ((ss.take len).map bs).length := (List.getElem?_eq_some_iff.1 hj).1
        have hj2 : j < ss.length := by omega
        have h1 := hat j hj2
        rw [add_of hs] at h1
        rw [List.getElem?_map, List.getElem?_take, if_pos (by omega), List.getElem?_eq_getElem hj2] at hj
        simp only [List.getD_eq_getElem?_getD, List.getElem?_eq_getElem hj2, Option.getD_some] at h1
        cases hj
        rw [h1, V, mk_bs]
    · simp only [Rows.uptoBulk]
      have h1 := bulk_len (strs (H := H) (ss.take len))
      have h2 : (strs (H := H) (ss.take len)).length = (ss.take len).length := by simp [strs]
      rw [List.length_map]
      omega
    · have h1 := hx (ss.length * 16) (by
        simp only [DataW.weights, Try.underlying22, bytes9]
        refine List.mem_cons.2 (.inl ?_)
        simp [strs]
        omega)
      have hr : reachBytes = 140737488351232 := rfl
      rw [hlen]
      omega
theorem open_lists (h : DataW.trod enc Try.prog w 0 (fun _ => true) true fuel 24 [c] = some x) :
    ∃ (a : Option Addr) (cap : Nat) (ls : List (List Bs)) (us : List Value), c = .slice a ls.length cap ∧ ls.length ≤ cap ∧ LL (fun k => k < w.heap.size) w a ls us ∧ ls.length + tot ls + 1 ≤ Rows.uptoBulk x.1 := by
  rcases DataW.trod_slice Try.underlying24 h with ⟨e3, rfl⟩ | ⟨a, len, cap, elems, rest, m, rfl, e3, rfl, -, hlc, hcm, hel, hat, -, -⟩
  · cases e3
    exact ⟨none, 0, [], [], rfl, Nat.le_refl _, ⟨rfl, .inl rfl, fun j u l h1 => by simp at h1⟩, bulk_one _⟩
  · cases e3
    have hch : ∀ i, i < len → ∃ p : Value × List Bs, ∃ hi : i < elems.length, w.cell? (a.add i) = some p.1 ∧ SL (fun k => k < w.heap.size) w p.1 p.2 ∧ p.2.length + 1 ≤ Rows.uptoBulk (elems[i]).1 := by
      intro i hi
      have hi2 : i < elems.length := by omega
      have h1 := hat i hi
      rw [List.getElem?_eq_getElem hi2, cells22, Nat.mul_one] at h1
      obtain ⟨cs', h2, h3⟩ := Option.bind_eq_some_iff.1 h1
      obtain ⟨v, rfl, hv⟩ := cells_one h2
      obtain ⟨l, h4, h5, _⟩ := open_strs h3
      exact ⟨(v, l), hi2, hv, h4, h5⟩
    obtain ⟨T, hT⟩ := Deep.choose_lt hch
    have e1 : ((List.range len).map fun i => (T i).2).length = len := by simp
    have e2 : ((List.range len).map fun i => (T i).1).length = len := by simp
    refine ⟨some a, cap, (List.range len).map (fun i => (T i).2), (List.range len).map (fun i => (T i).1), by rw [e1], by rw [e1]; exact hlc, ⟨by rw [e1, e2], ?_, fun j u l h1 h2 => ?_⟩, ?_⟩
    · rcases Nat.eq_zero_or_pos len with h0 | hp
      · left; rw [h0]; rfl
      · obtain ⟨_, h1, _⟩ := hT 0 hp
        have hs : a.spot = none := by
          have := spot_none h1
          simpa [Addr.add] using this
        refine RdV.mono (G := fun k => True ∧ k < w.heap.size) (RdV.lt (.inr ⟨a.block, a.off, by obtain ⟨b, o, s⟩ := a; obtain rfl : s = none := hs; rfl, trivial, fun j u hj => ?_⟩)) fun k _ e => e.2
        have hj1 : j < len := by
          have := (List.getElem?_eq_some_iff.1 hj).1
          simpa using this
        obtain ⟨_, h2, _⟩ := hT j hj1
        rw [add_of hs] at h2
        rw [h2]
        simp [hj1] at hj
        rw [hj]
    · have hj1 : j < len := by
        have := (List.getElem?_eq_some_iff.1 h1).1
        simpa using this
      simp [hj1] at h1 h2
      obtain ⟨_, _, h3, _⟩ := hT j hj1
      rw [← h1, ← h2]
      exact h3
    · have h1 := bulk_sum (elems.map (·.1)) (fun i => (T i).2.length + 1) (fun i hi => by
        have hi2 : i < len := by simpa [hel] using hi
        obtain ⟨_, _, _, h4⟩ := hT i hi2
        rw [List.getElem_map]
        exact h4)
      rw [List.length_map, hel] at h1
      have h2 : ∀ n, ((List.range n).map fun i => (T i).2.length + 1).sum = n + ((List.range n).map fun i => (T i).2.length).sum := by
        intro n
        induction n with
        | zero => rfl
        | succ n ih =>
          rw [List.range_succ, List.map_append, List.map_append, List.sum_append_nat, List.sum_append_nat, ih]
          simp
          omega
      rw [h2] at h1
      have h3 : tot ((List.range len).map fun i => (T i).2) = ((List.range len).map fun i => (T i).2.length).sum := by
        unfold tot
        rw [List.map_map]
        rfl
      simp only [Rows.uptoBulk]
      rw [e1, h3]
      omega
end
end Go.Proofs.Ythhlembempknmab.Opens
