/- A script of deeds in memory, and what a deed leaves of a list of texts' numbers. -/
import Derived.Test.YtdmjfmojacnbeaaSTx
namespace Go.Proofs.Ytdmjfmojacnbeaa.SDeed
open Go.RowKit
open Go.Proofs.Ytdmjfmojacnbeaa.Base (Fr Gr ptr hid_of lt_of bel_drewN cell_lt)
open Go.Proofs.Ytdmjfmojacnbeaa.TextMath (InI)
open Go.Proofs.Ytdmjfmojacnbeaa.STexts (prt)
open Go.Proofs.Ytdmjfmojacnbeaa.DoA (box insD)
open Go.Proofs.Ytdmjfmojacnbeaa.STx
set_option linter.unusedVariables false
/-- a deed in memory -/
structure DD where
  K : Int
  la : Option Addr
  lc : Nat
  m : List Int
  A : Int
  Bq : Int
  C : Int
  bf : Bool
instance : Inhabited DD := ⟨⟨0, none, 0, [], 0, 0, 0, false⟩⟩
def DD.wt (x : DD) : Nat := x.m.length + 1
def wts (l : List DD) : Nat := (l.map DD.wt).sum
structure DCell (w : World) (g o : Nat) (x : DD) : Prop where
  c0 : w.cell? ⟨g, o, none⟩ = some (.int .i64 x.K)
  c1 : w.cell? ⟨g, o + 1, none⟩ = some (.slice x.la x.m.length x.lc)
  c2 : w.cell? ⟨g, o + 2, none⟩ = some (.int .i64 x.A)
  c3 : w.cell? ⟨g, o + 3, none⟩ = some (.int .i64 x.Bq)
  c4 : w.cell? ⟨g, o + 4, none⟩ = some (.int .i64 x.C)
  c5 : w.cell? ⟨g, o + 5, none⟩ = some (.bool x.bf)
structure DD.ok (w : World) (x : DD) : Prop where
  sl : Base.SL (fun k => k < w.heap.size) w (.slice x.la x.m.length x.lc) x.m
  im : ∀ n ∈ x.m, InI n
  ia : InI x.A
  ib : InI x.Bq
structure DSl (w : World) (v : Value) (l : List DD) : Prop where
  at' : ∃ a c, v = .slice a l.length c ∧ (l = [] ∨ ∃ g o, a = some ⟨g, o, none⟩ ∧ ∀ i x, l[i]? = some x → DCell w g (o + i * 6) x)
  ok : ∀ x ∈ l, DD.ok w x
theorem wts_len (l : List DD) : l.length ≤ wts l := by
  induction l with
  | nil => exact Nat.zero_le _
  | cons x r ih => unfold wts at *; simp only [List.map_cons, List.sum_cons, List.length_cons, DD.wt]; omega
theorem wts_take (l : List DD) (k : Nat) (h : k < l.length) : wts (l.take (k + 1)) = wts (l.take k) + l[k].wt := by
  unfold wts
  rw [List.take_succ_eq_append_getElem h, List.map_append, List.sum_append]
  simp
theorem wts_le (l : List DD) (k : Nat) : wts (l.take k) ≤ wts l := by
  have : wts l = wts (l.take k) + wts (l.drop k) := by
    unfold wts
    rw [← List.sum_append, ← List.map_append, List.take_append_drop]
  omega
/-- what a deed leaves -/
def doT (l : List Int) (K : Int) (m : List Int) (A Bq : Int) (bf : Bool) : List Int :=
  if K = 0 then m.reverse ++ l
  else if K = 1 then l ++ m
  else if K = 2 then l.drop (Keep.clamp A l.length)
  else if K = 3 then l.take (l.length - Keep.clamp A l.length)
  else if K = 6 then DropC.dropS l 0 (Remove.remP l A Bq)
  else if K = 7 then insD l bf A Bq
  else l
theorem insD_no {l : List Int} {bf : Bool} {p v : Int} (h : FindMath.findN l p 1 false 1 l.length = []) : insD l bf p v = l := by unfold insD; rw [h]
theorem insD_yes {l : List Int} {bf : Bool} {p v : Int} {k : Nat} (h : FindMath.findN l p 1 false 1 l.length = [k]) : insD l bf p v = Insert.insS l (if bf then k else k + 1) v := by unfold insD; rw [h]
theorem insD_len (l : List Int) (bf : Bool) (p v : Int) : (insD l bf p v).length ≤ l.length + 1 := by
  unfold insD
  split
  · omega
  · rename_i k r e
    have hk : k < l.length := by
      have : k ∈ FindMath.findN l p 1 false 1 l.length := by rw [e]; exact List.mem_cons_self
      exact RefC.fn_lt this
    rw [Insert.insS_len _ _ _ (by split <;> omega)]; omega
theorem doT_len (l : List Int) (K : Int) (m : List Int) (A Bq : Int) (bf : Bool) : (doT l K m A Bq bf).length ≤ l.length + m.length + 1 := by
  unfold doT
  split
  · first | (simp; done) | (simp; omega)
  split
  · first | (simp; done) | (simp; omega)
  split
  · first | (simp; done) | (simp; omega)
  split
  · first | (simp; done) | (simp; omega)
  split
  · have := RefC.dropS_len l 0 (Remove.remP l A Bq); omega
  split
  · have := insD_len l bf A Bq; omega
  · omega
end Go.Proofs.Ytdmjfmojacnbeaa.SDeed
