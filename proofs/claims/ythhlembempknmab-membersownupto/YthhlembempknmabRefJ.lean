/- The document's Union, Inter, Diff, Add, Remove, Count, After. -/
import Derived.Test.YthhlembempknmabROf
import Derived.Test.YthhlembempknmabAfter
namespace Go.Proofs.Ythhlembempknmab.RefJ
open Go.RowKit Go.Sort
open Go.Proofs.Ythhlembempknmab.SetMath
open Go.Proofs.Ythhlembempknmab.Base
open Go.Proofs.Ythhlembempknmab.Small
open Go.Proofs.Ythhlembempknmab.Lists
open Go.Proofs.Ythhlembempknmab.ROf
open Go.Proofs.Ythhlembempknmab.Code
open Go.Proofs.Ythhlembempknmab.After
set_option linter.unusedVariables false
set_option linter.unusedSimpArgs false
theorem flat_tot (ls : List (List El)) : ls.flatten.length = tot ls := by unfold tot; exact List.length_flatten
theorem flat_le {ls : List (List El)} {i : Nat} (h : i < ls.length) : (ls.take i).flatten.length + ls[i].length ≤ tot ls := by
  have h1 := tot_split ls i
  rw [flat_tot]
  rw [List.drop_eq_getElem_cons h, tot_cons] at h1
  omega
theorem flat_succ {ls : List (List El)} {i : Nat} (h : i < ls.length) : (ls.take (i + 1)).flatten = (ls.take i).flatten ++ ls[i] := by
  rw [List.take_succ_eq_append_getElem h, List.flatten_append]
  simp
theorem filt_snoc {T : List Bs} {p : Bs → Bool} {i : Nat} (h : i < T.length) : (T.take (i + 1)).filter p = (T.take i).filter p ++ (if p T[i] = true then [T[i]] else []) := by
  rw [List.take_succ_eq_append_getElem h, List.filter_append]
  congr 1
  by_cases q : p T[i] = true <;> simp [q]
theorem all_snoc {lr : List (List El)} {q : List El → Bool} {j : Nat} (h : j < lr.length) : (lr.take (j + 1)).all q = ((lr.take j).all q && q lr[j]) := by
  rw [List.take_succ_eq_append_getElem h, List.all_append]
  simp
end Go.Proofs.Ythhlembempknmab.RefJ
