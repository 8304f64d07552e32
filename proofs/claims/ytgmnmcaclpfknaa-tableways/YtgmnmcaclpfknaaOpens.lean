/- From what lists of texts read as to their cells, and how much they hold. -/
import Derived.Test.YtgmnmcaclpfknaaBase
import Derived.Test.YtgmnmcaclpfknaaRows
import Derived.SliceStrings
import Derived.Deep.Slices
namespace Go.Proofs.Ytgmnmcaclpfknaa.Opens
open Go.ChangeShapes Go.WideShapes Go.RowKit
open Go.Proofs.Ytgmnmcaclpfknaa.SetMath
open Go.Proofs.Ytgmnmcaclpfknaa.Base
set_option linter.unusedVariables false
set_option linter.unusedSimpArgs false
theorem cells9 : Try.prog.cellsOf 9 = 1 := by kernel_rfl
theorem bytes9 : Try.prog.bytesOf 9 = 16 := by kernel_rfl
theorem spot_none {w : World} {a : Addr} {v : Value} (h : w.cell? a = some v) : a.spot = none := by
  unfold World.cell? at h
  rcases hh : w.heap[a.block]? with _ | o
  · rw [hh] at h; cases h
  · rw [hh] at h
    cases o with
    | cells c ty fz =>
      cases hs : a.spot with
      | none => rfl
      | some s => simp [hs] at h
    | _ => cases h
theorem add_of {a : Addr} (h : a.spot = none) (k : Nat) : a.add k = ⟨a.block, a.off + k, none⟩ := by
  obtain ⟨b, o, s⟩ := a
  obtain rfl : s = none := h
  exact Addr.add_lit b o k
theorem bulk_one {H : Type} (d : DataW H) : 1 ≤ Rows.uptoBulk d := by
  cases d with
  | lit l => cases l <;> simp only [Rows.uptoBulk] <;> omega
  | _ => simp only [Rows.uptoBulk] <;> omega
theorem bulk_len {H : Type} : ∀ l : List (DataW H), l.length ≤ Rows.uptoBulkAll l
  | [] => Nat.zero_le _
  | d :: l => by
    have := bulk_len l
    have := bulk_one d
    rw [List.length_cons, Rows.uptoBulkAll]
    omega
section
variable {H : Type} {enc : TypeId × Value → H} {w : World} {fuel : Nat} {c : Value} {x : DataW H × List MemPlace}
theorem open_strs (h : DataW.trod enc Try.prog w 0 (fun _ => true) true fuel 32 [c] = some x) :
    ∃ l : List Bs, SL (fun k => k < w.heap.size) w c l ∧ l.length + 1 ≤ Rows.uptoBulk x.1 ∧ ((∀ n ∈ x.1.weights Try.prog 32, n ≤ reachBytes) → l.length * 16 ≤ 140737488351232) ∧ ∀ y ∈ l, y.length < 9223372036854775808 := by
  rcases open_strings Try.underlying32 Try.underlying9 cells9 h with ⟨e, rfl⟩ | ⟨a, len, cap, ss, e, -, hlc, hm, hz, rfl, hat, hwf⟩
  · cases e
    exact ⟨[], SL.nil _ _, bulk_one _, fun _ => by simp, by simp⟩
  · cases e
    have hl : len ≤ ss.length := by rw [hz]; simp; exact hlc
    have hlen : ((ss.take len).map bs).length = len := by rw [List.length_map, List.length_take]; omega
    refine ⟨(ss.take len).map bs, ⟨some a, cap, by rw [hlen], by rw [hlen]; exact hlc, Rd.mono (G := fun k => True ∧ k < w.heap.size) (Rd.lt ?_) fun k _ e => e.2⟩, ?_, fun hx => ?_, fun y hy => ?_⟩
    · by_cases h0 : len = 0
      · left; rw [h0]; rfl
      · right
        have hsp := spot_none (hat 0 (by omega))
        have hs : a.spot = none := by simpa [Addr.add] using hsp
        refine ⟨a.block, a.off, by obtain ⟨b, o, s⟩ := a; obtain rfl : s = none := hs; rfl, trivial, fun j y hj => ?_⟩
        have hj1 : j < ((ss.take len).map bs).length := (List.getElem?_eq_some_iff.1 hj).1
        have hj2 : j < ss.length := by omega
        have h1 := hat j hj2
        rw [add_of hs] at h1
        rw [List.getElem?_map, List.getElem?_take, if_pos (by omega), List.getElem?_eq_getElem hj2] at hj
        simp only [List.getD_eq_getElem?_getD, List.getElem?_eq_getElem hj2, Option.getD_some] at h1
        cases hj
        rw [h1, V, mk_bs]
    · simp only [Rows.uptoBulk]
      have h1 := bulk_len (strs (H := H) (ss.take len))
      have h2 : (strs (H := H) (ss.take len)).length = (ss.take len).length := by simp [strs]
      rw [List.length_map]
      omega
    · have h1 := hx (ss.length * 16) (by
        simp only [DataW.weights, Try.underlying32, bytes9]
        refine List.mem_cons.2 (.inl ?_)
        simp [strs]
        omega)
      have hr : reachBytes = 140737488351232 := rfl
      rw [hlen]
      omega
    · obtain ⟨s, hs, rfl⟩ := List.mem_map.1 hy
      have := hwf s (List.mem_of_mem_take hs)
      rw [len_bs]
      unfold maxLen at this
      omega
end
end Go.Proofs.Ytgmnmcaclpfknaa.Opens
