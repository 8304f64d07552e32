/- From what a list of numbers reads as to its cells, and how much it holds. -/
import Derived.Test.YtdmjfmojacnbeaaBase
import Derived.Test.YtdmjfmojacnbeaaRows
import Derived.ChangeSlices
import Derived.Deep.Slices
namespace Go.Proofs.Ytdmjfmojacnbeaa.Opens
open Go.ChangeShapes Go.WideShapes Go.RowKit
open Go.Proofs.Ytdmjfmojacnbeaa.Base
set_option linter.unusedVariables false
theorem cells3 : Try.prog.cellsOf 3 = 1 := by kernel_rfl
theorem bytes3 : Try.prog.bytesOf 3 = 8 := by kernel_rfl
theorem spot_none {w : World} {a : Addr} {v : Value} (h : w.cell? a = some v) : a.spot = none := by
  unfold World.cell? at h
  rcases hh : w.heap[a.block]? with _ | o
  · rw [hh] at h; cases h
  · rw [hh] at h
    cases o with
    | cells c ty fz =>
      cases hs : a.spot with
      | none => rfl
      | some s => simp [hs] at h
    | _ => cases h
theorem add_of {a : Addr} (h : a.spot = none) (k : Nat) : a.add k = ⟨a.block, a.off + k, none⟩ := by
  obtain ⟨b, o, s⟩ := a
  obtain rfl : s = none := h
  exact Addr.add_lit b o k
theorem wf_i64 {n : Int} (h : (Lit.int .i64 n).wf = true) : -9223372036854775808 ≤ n ∧ n ≤ 9223372036854775807 := by
  simp [Lit.wf, IntKind.min, IntKind.max, IntKind.signed, IntKind.bits] at h
  omega
theorem bulk_one {H : Type} (d : DataW H) : 1 ≤ Rows.uptoBulk d := by
  cases d with
  | lit l => cases l <;> simp only [Rows.uptoBulk] <;> omega
  | _ => simp only [Rows.uptoBulk] <;> omega
theorem bulk_len {H : Type} : ∀ l : List (DataW H), l.length ≤ Rows.uptoBulkAll l
  | [] => Nat.zero_le _
  | d :: l => by
    have := bulk_len l
    have := bulk_one d
    rw [List.length_cons, Rows.uptoBulkAll]
    omega
section
variable {H : Type} {enc : TypeId × Value → H} {w : World} {fuel : Nat} {c : Value} {x : DataW H × List MemPlace}
theorem open_nums (h : DataW.trod enc Try.prog w 0 (fun _ => true) true fuel 22 [c] = some x) :
    ∃ l : List Int, SL (fun k => k < w.heap.size) w c l ∧ l.length + 1 ≤ Rows.uptoBulk x.1 ∧ (∀ n ∈ l, -9223372036854775808 ≤ n ∧ n ≤ 9223372036854775807) ∧ ((∀ n ∈ x.1.weights Try.prog 22, n ≤ reachBytes) → l.length * 8 ≤ 140737488351232) := by
  rcases ChangeShapes.open_ints Try.underlying22 Try.underlying3 cells3 h with ⟨e, rfl⟩ | ⟨a, len, cap, zs, e, -, hlc, hm, hz, rfl, hat, hwf⟩
  · cases e
    exact ⟨[], SL.nil _ _, bulk_one _, fun n hn => (by cases hn), fun _ => by simp⟩
  · cases e
    have hl : len ≤ zs.length := by rw [hz]; simp; exact hlc
    have hlen : (zs.take len).length = len := by rw [List.length_take]; omega
    refine ⟨zs.take len, ⟨some a, cap, by rw [hlen], by rw [hlen]; exact hlc, Rd.mono (G := fun k => True ∧ k < w.heap.size) (Rd.lt ?_) fun k _ e => e.2⟩, ?_, fun n hn => wf_i64 (hwf n (List.mem_of_mem_take hn)), fun hx => ?_⟩
    · by_cases h0 : len = 0
      · left; rw [h0]; rfl
      · right
        have hsp := spot_none (hat 0 (by omega))
        have hs : a.spot = none := by simpa [Addr.add] using hsp
        refine ⟨a.block, a.off, by obtain ⟨b, o, s⟩ := a; obtain rfl : s = none := hs; rfl, trivial, fun j y hj => ?_⟩
        have hj1 : j < (zs.take len).length := (List.getElem?_eq_some_iff.1 hj).1
        have hj2 : j < zs.length := by omega
        have h1 := hat j hj2
        rw [add_of hs] at h1
        rw [List.getElem?_take, if_pos (by omega), List.getElem?_eq_getElem hj2] at hj
        simp only [List.getD_eq_getElem?_getD, List.getElem?_eq_getElem hj2, Option.getD_some] at h1
        cases hj
        exact h1
    · simp only [Rows.uptoBulk]
      have h1 := bulk_len (lits (H := H) .i64 (zs.take len))
      have h2 : (lits (H := H) .i64 (zs.take len)).length = (zs.take len).length := by simp [lits]
      omega
    · have h1 := hx (zs.length * 8) (by
        simp only [DataW.weights, Try.underlying22, bytes3]
        refine List.mem_cons.2 (.inl ?_)
        simp [lits]
        omega)
      have hr : reachBytes = 140737488351232 := rfl
      rw [hlen]
      omega
end
end Go.Proofs.Ytdmjfmojacnbeaa.Opens
