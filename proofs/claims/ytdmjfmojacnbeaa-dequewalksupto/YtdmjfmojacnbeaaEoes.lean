/- DequeDoes, walked. -/
import Derived.Test.YtdmjfmojacnbeaaEoO
namespace Go.Proofs.Ytdmjfmojacnbeaa.Eoes
open Go.RowKit
open Go.Proofs.Ytdmjfmojacnbeaa.Base
open Go.Proofs.Ytdmjfmojacnbeaa.Held
open Go.Proofs.Ytdmjfmojacnbeaa.Lay
open Go.Proofs.Ytdmjfmojacnbeaa.Free
open Go.Proofs.Ytdmjfmojacnbeaa.Keep
open Go.Proofs.Ytdmjfmojacnbeaa.Place
open Go.Proofs.Ytdmjfmojacnbeaa.Piece
open Go.Proofs.Ytdmjfmojacnbeaa.FindMath
open Go.Proofs.Ytdmjfmojacnbeaa.SortC
open Go.Proofs.Ytdmjfmojacnbeaa.DropC
open Go.Proofs.Ytdmjfmojacnbeaa.Remove
open Go.Proofs.Ytdmjfmojacnbeaa.Insert
open Go.Proofs.Ytdmjfmojacnbeaa.Same
open Go.Proofs.Ytdmjfmojacnbeaa.Awake
open Go.Proofs.Ytdmjfmojacnbeaa.Ends
open Go.Proofs.Ytdmjfmojacnbeaa.RefC
open Go.Proofs.Ytdmjfmojacnbeaa.EoA
open Go.Proofs.Ytdmjfmojacnbeaa.EoB
open Go.Proofs.Ytdmjfmojacnbeaa.EoC
open Go.Proofs.Ytdmjfmojacnbeaa.EoD
open Go.Proofs.Ytdmjfmojacnbeaa.EoO
set_option linter.unusedVariables false
set_option linter.unusedSimpArgs false
/-- a deed in memory -/
structure DD where
  K : Int
  la : Option Addr
  lc : Nat
  m : List El
  A : Int
  Bq : Int
  C : Int
  bf : Bool
def DD.d (x : DD) : Dd := ⟨x.K, x.m, x.A, x.Bq, x.C, x.bf⟩
def DD.wt (x : DD) : Nat := x.m.length + 1
def wts (l : List DD) : Nat := (l.map DD.wt).sum
structure DCell (w : World) (g o : Nat) (x : DD) : Prop where
  c0 : w.cell? ⟨g, o, none⟩ = some (.int .i64 x.K)
  c1 : w.cell? ⟨g, o + 1, none⟩ = some (.slice x.la x.m.length x.lc)
  c2 : w.cell? ⟨g, o + 2, none⟩ = some (.int .i64 x.A)
  c3 : w.cell? ⟨g, o + 3, none⟩ = some (.int .i64 x.Bq)
  c4 : w.cell? ⟨g, o + 4, none⟩ = some (.int .i64 x.C)
  c5 : w.cell? ⟨g, o + 5, none⟩ = some (.bool x.bf)
structure DD.ok (w : World) (x : DD) : Prop where
  sl : SL (fun k => k < w.heap.size) w (.slice x.la x.m.length x.lc) x.m
  ia : In x.A
  ib : In x.Bq
structure DSl (w : World) (v : Value) (l : List DD) : Prop where
  at' : ∃ a c, v = .slice a l.length c ∧ (l = [] ∨ ∃ g o, a = some ⟨g, o, none⟩ ∧ ∀ i x, l[i]? = some x → DCell w g (o + i * 6) x)
  ok : ∀ x ∈ l, DD.ok w x
theorem wts_len (l : List DD) : l.length ≤ wts l := by
  induction l with
  | nil => exact Nat.zero_le _
  | cons x r ih => unfold wts at *; simp only [List.map_cons, List.sum_cons, List.length_cons, DD.wt]; omega
theorem wts_take (l : List DD) (k : Nat) (h : k < l.length) : wts (l.take (k + 1)) = wts (l.take k) + l[k].wt := by
  unfold wts
  rw [List.take_succ_eq_append_getElem h, List.map_append, List.sum_append]
  simp
theorem wts_le (l : List DD) (k : Nat) : wts (l.take k) ≤ wts l := by
  have : wts l = wts (l.take k) + wts (l.drop k) := by
    unfold wts
    rw [← List.sum_append, ← List.map_append, List.take_append_drop]
  omega
theorem doS_len (l : List El) (d : Dd) : (doS l d).length ≤ l.length + d.L.length + 1 := by
  unfold doS
  split
  · first | (simp; done) | (simp; omega)
  split
  · first | (simp; done) | (simp; omega)
  split
  · first | (simp; done) | (simp; omega)
  split
  · first | (simp; done) | (simp; omega)
  split
  · unfold putS; split <;> first | (simp; done) | (simp; omega) | omega
  split
  · unfold pieceS; first | (simp; done) | (simp; omega)
  split
  · have := dropS_len l 0 (remP l d.A d.Bq); omega
  split
  · unfold insD
    split
    · omega
    · rename_i k r e
      have hk : k < l.length := by
        have : k ∈ findN l d.A 1 false 1 l.length := by rw [e]; exact List.mem_cons_self
        exact fn_lt this
      rw [insS_len _ _ _ (by split <;> omega)]; omega
  · omega
theorem do_any {F : Nat → Prop} {B : Cx} {b : Nat} {l : List El} {u : Value} {w0 w : World} (h : Sx F B b l u w0 w) (x : DD) (hm : SL B.Lo w (.slice x.la x.m.length x.lc) x.m) (hA : In x.A) (hB : In x.Bq) (hb : 3 * (l.length + x.m.length) ≤ 4194304) :
    Calls Try.prog 11 #[ptr b, u, .agg (box x.K x.A x.Bq x.C (.slice x.la x.m.length x.lc) x.bf)] w (DoE B b (doS l x.d) w0) := by
  obtain ⟨K, la, lc, m, A, Bq, C, bf⟩ := x
  show Calls Try.prog 11 #[ptr b, u, .agg (box K A Bq C (.slice la m.length lc) bf)] w (DoE B b (doS l ⟨K, m, A, Bq, C, bf⟩) w0)
  by_cases k0 : K = 0
  · subst k0; exact do_0 h hm A Bq C bf hA hB hb
  by_cases k1 : K = 1
  · subst k1; exact do_1 h hm A Bq C bf hA hB hb
  by_cases k2 : K = 2
  · subst k2; exact do_2 h hm A Bq C bf hA hB hb
  by_cases k3 : K = 3
  · subst k3; exact do_3 h hm A Bq C bf hA hB hb
  by_cases k4 : K = 4
  · subst k4; exact do_4 h hm A Bq C bf hA hB hb
  by_cases k5 : K = 5
  · subst k5; exact do_5 h hm A Bq C bf hA hB hb
  by_cases k6 : K = 6
  · subst k6; exact do_6 h hm A Bq C bf hA hB hb
  by_cases k7 : K = 7
  · subst k7; exact do_7 h hm A Bq C bf hA hB hb
  exact do_else h hm K A Bq C bf (by simpa using k0) (by simpa using k1) (by simpa using k2) (by simpa using k3) (by simpa using k4) (by simpa using k5) (by simpa using k6) (by simpa using k7) hA hB hb
end Go.Proofs.Ytdmjfmojacnbeaa.Eoes
