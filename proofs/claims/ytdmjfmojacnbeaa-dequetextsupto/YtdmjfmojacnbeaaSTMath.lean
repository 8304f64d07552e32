/- What is done to the texts of a list is done to the list. -/
import Derived.Test.YtdmjfmojacnbeaaMemA
import Derived.Test.YtdmjfmojacnbeaaSTexts
import Derived.Test.YtdmjfmojacnbeaaTextMath
namespace Go.Proofs.Ytdmjfmojacnbeaa.STMath
open Go.RowKit
open Go.Proofs.Ytdmjfmojacnbeaa.FindMath
open Go.Proofs.Ytdmjfmojacnbeaa.TextMath
open Go.Proofs.Ytdmjfmojacnbeaa.STexts (prt)
set_option linter.unusedVariables false
theorem prt_inj {a b : Int} (ha : InI a) (hb : InI b) (h : prt a = prt b) : a = b := by
  have h1 : Lib.itoa a = Lib.itoa b := by
    have := congrArg ByteArray.data h
    simpa [prt] using this
  have h2 := atoi_itoa a ha
  rw [h1, atoi_itoa b hb] at h2
  injection h2 with h2
  exact h2.symm
theorem get_map {l : List Int} {v : Int} (hl : ∀ x ∈ l, InI x) (hv : InI v) (i : Nat) : (l.map prt)[i]? = some (prt v) ↔ l[i]? = some v := by
  rw [List.getElem?_map]
  constructor
  · intro h
    obtain ⟨x, hx, e⟩ := Option.map_eq_some_iff.1 h
    rw [hx, prt_inj (hl x (List.mem_of_getElem? hx)) hv e]
  · intro h
    rw [h]; rfl
theorem hits_map {l : List Int} {v : Int} (hl : ∀ x ∈ l, InI x) (hv : InI v) (back : Bool) (m : Nat) : hits (l.map prt) (prt v) back m = hits l v back m := by
  unfold hits
  rw [List.length_map]
  apply List.filter_congr
  intro i _
  exact decide_eq_decide.2 (get_map hl hv i)
theorem findN_map {l : List Int} {v : Int} (hl : ∀ x ∈ l, InI x) (hv : InI v) (r : Nat) (back : Bool) (c : Int) (m : Nat) : findN (l.map prt) (prt v) r back c m = findN l v r back c m := by
  unfold findN
  rw [hits_map hl hv]
end Go.Proofs.Ytdmjfmojacnbeaa.STMath
