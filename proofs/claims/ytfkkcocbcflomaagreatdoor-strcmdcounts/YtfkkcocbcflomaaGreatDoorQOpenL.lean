/- From what a list of numbers reads as to its cells. -/
import Derived.Test.YtfkkcocbcflomaaGreatDoorQCntL
import Derived.Test.YtfkkcocbcflomaaGreatDoorRows
import Derived.ChangeSlices
import Derived.Deep.Slices
namespace Go.Proofs.YtfkkcocbcflomaaGreatDoor.QOpen
open Go.ChangeShapes Go.WideShapes Go.RowKit
open Go.Proofs.YtfkkcocbcflomaaGreatDoor.QCnt (IR)
open Go.Proofs.YtfkkcocbcflomaaGreatDoor.TextMath (InI)
set_option linter.unusedVariables false
set_option linter.unusedSimpArgs false
theorem cells3 : Tryz.prog.cellsOf 3 = 1 := by kernel_rfl
theorem bytes3 : Tryz.prog.bytesOf 3 = 8 := by kernel_rfl
theorem spot_none {w : World} {a : Addr} {v : Value} (h : w.cell? a = some v) : a.spot = none := by
  unfold World.cell? at h
  rcases hh : w.heap[a.block]? with _ | o
  · rw [hh] at h; cases h
  · rw [hh] at h
    cases o with
    | cells c ty fz =>
      cases hs : a.spot with
      | none => rfl
      | some s => simp [hs] at h
    | _ => cases h
theorem add_of {a : Addr} (h : a.spot = none) (k : Nat) : a.add k = ⟨a.block, a.off + k, none⟩ := by
  obtain ⟨b, o, s⟩ := a
  obtain rfl : s = none := h
  exact Addr.add_lit b o k
theorem wf_i64 {n : Int} (h : (Lit.int .i64 n).wf = true) : InI n := by
  simp [Lit.wf, IntKind.min, IntKind.max, IntKind.signed, IntKind.bits] at h
  unfold InI
  omega
section
variable {H : Type} {enc : TypeId × Value → H} {w : World} {fuel : Nat} {x : DataW H × List MemPlace}
theorem open_nums {aa : Option Addr} {nn cc : Nat} (h : DataW.trod enc Tryz.prog w 0 (fun _ => true) true fuel 60 [.slice aa nn cc] = some x) (hx : ∀ n ∈ x.1.weights Tryz.prog 60, n ≤ reachBytes) :
    ∃ l : List Int, nn = l.length ∧ IR w aa l ∧ (∀ n ∈ l, InI n) ∧ l.length ≤ 17592186043904 := by
  rcases ChangeShapes.open_ints Tryz.underlying60 Tryz.underlying3 cells3 h with ⟨e, rfl⟩ | ⟨a, len, cap, zs, e, -, hlc, hm, hz, rfl, hat, hwf⟩
  · cases e
    exact ⟨[], rfl, .inl rfl, fun n hn => (by cases hn), by simp⟩
  · cases e
    have hl : nn ≤ zs.length := by rw [hz]; simp; exact hlc
    have hlen : (zs.take nn).length = nn := by rw [List.length_take]; omega
    refine ⟨zs.take nn, hlen.symm, ?_, fun n hn => wf_i64 (hwf n (List.mem_of_mem_take hn)), ?_⟩
    · by_cases h0 : nn = 0
      · left; rw [h0]; rfl
      · right
        have hsp := spot_none (hat 0 (by omega))
        have hs : a.spot = none := by simpa [Addr.add] using hsp
        have hc : ∀ j (hj : j < (zs.take nn).length), w.cell? ⟨a.block, a.off + j, none⟩ = some (.int .i64 ((zs.take nn)[j]'hj)) := fun j hj => by
          have hj2 : j < zs.length := by omega
          have h1 := hat j hj2
          rw [add_of hs] at h1
          simp only [List.getD_eq_getElem?_getD, List.getElem?_eq_getElem hj2, Option.getD_some] at h1
          rw [h1, List.getElem_take]
        refine ⟨a.block, a.off, by obtain ⟨b, o, s⟩ := a; obtain rfl : s = none := hs; rfl, ?_, hc⟩
        have q := Base.cell_lt (hc 0 (by omega))
        exact q
    · have h1 := hx (zs.length * 8) (by
        simp only [DataW.weights, Tryz.underlying60, bytes3]
        refine List.mem_cons.2 (.inl ?_)
        simp [lits]
        omega)
      have hr : reachBytes = 140737488351232 := rfl
      rw [hlen]
      omega
end
end Go.Proofs.YtfkkcocbcflomaaGreatDoor.QOpen
