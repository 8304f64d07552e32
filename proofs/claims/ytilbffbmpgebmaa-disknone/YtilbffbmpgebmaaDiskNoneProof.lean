/-
  DiskNone holds at every deed: a disk that is none answers as the document says and changes nothing, and the lists of names are new memory. No condition.
-/
import Derived.Test.YtilbffbmpgebmaaNone3
import Derived.Test.YtilbffbmpgebmaaRows
import Derived.WalkKit
import Derived.ProofKit
import Derived.OpenShut
import Derived.ShutString
import Derived.SizedLaws
import Derived.ChangeSlices
import Derived.Carry
namespace Go.Proofs.Ytilbffbmpgebmaa.diskNone
open Go.ChangeShapes Go.WideShapes Go.ChangeAt Go.RowKit
open Go.ChangeMaps (open_string shut_string)
set_option linter.unusedVariables false
theorem own : ownKnob Try.prog.godebug = none := by kernel_rfl
theorem laidOut : laidOutB Try.prog = true := by kernel_rfl
theorem cells38 : Try.prog.cellsOf 38 = 7 := by kernel_rfl
theorem cells36 : Try.prog.cellsOf 36 = 2 := by kernel_rfl
theorem cells3 : Try.prog.cellsOf 3 = 1 := by kernel_rfl
theorem cells9 : Try.prog.cellsOf 9 = 1 := by kernel_rfl
theorem cells29 : Try.prog.cellsOf 29 = 1 := by kernel_rfl
theorem cells34 : Try.prog.cellsOf 34 = 1 := by kernel_rfl
theorem two_of {α : Type} (l : List α) (h : l.length = 2) : ∃ a b, l = [a, b] := by
  match l, h with
  | [a, b], _ => exact ⟨a, b, rfl⟩
theorem six_of {α : Type} (l : List α) (h : l.length = 6) : ∃ a b c d e f, l = [a, b, c, d, e, f] := by
  match l, h with
  | [a, b, c, d, e, f], _ => exact ⟨a, b, c, d, e, f, rfl⟩
theorem seven_of {α : Type} (l : List α) (h : l.length = 7) : ∃ a b c d e f g, l = [a, b, c, d, e, f, g] := by
  match l, h with
  | [a, b, c, d, e, f, g], _ => exact ⟨a, b, c, d, e, f, g, rfl⟩
theorem agg_of {v : Value} {a b c d e f g : Value} (h : v.cells.toList = [a, b, c, d, e, f, g]) : v = .agg #[a, b, c, d, e, f, g] := by
  cases v with
  | agg cs =>
    have : cs = #[a, b, c, d, e, f, g] := by
      apply Array.toList_inj.1
      exact h
    rw [this]
  | _ => simp [Value.cells] at h
section
variable {H : Type} {enc : TypeId × Value → H} {w : World}
theorem a_slice {fuel : Nat} {t e : TypeId} {c : Value} {x : DataW H × List MemPlace} (ht : Try.prog.underlying t = some (.slice e)) (h : DataW.trod enc Try.prog w 0 (fun _ => true) true fuel t [c] = some x) : ∃ a n k, c = .slice a n k := by
  rcases DataW.trod_slice ht h with ⟨e3, -⟩ | ⟨a, len, cap, elems, rest, m, -, e3, -⟩
  · cases e3; exact ⟨none, 0, 0, rfl⟩
  · cases e3; exact ⟨some a, len, cap, rfl⟩
theorem open_deed {v : Value} {d : DataW H} {p : List MemPlace} (h : DataW.Trod enc Try.prog w 0 (fun _ => true) true 38 v d p) :
    ∃ (k : Int) (A B : ByteArray) (n : Int) (fa : Option Addr) (fn fc : Nat) (cn : Int) (ba : Option Addr) (bn bc : Nat), v = .agg #[.int .i64 k, .string A, .string B, .int .i64 n, .slice fa fn fc, .int .i64 cn, .slice ba bn bc] := by
  obtain ⟨fuel, hf⟩ := h
  obtain ⟨xs, m, -, -, hl, hlen, hfd⟩ := DataW.trod_struct Try.underlying38 hf
  rw [cells38] at hl
  obtain ⟨c0, c1, c2, c3, c4, c5, c6, hcs⟩ := seven_of _ hl
  obtain ⟨y0, y1, y2, y3, y4, y5, rfl⟩ := six_of xs hlen
  rw [hcs] at hfd
  have g0 : DataW.trod enc Try.prog w 0 (fun _ => true) true m 3 (([c0, c1, c2, c3, c4, c5, c6].drop 0).take (Try.prog.cellsOf 3)) = some y0 := hfd 0 _ rfl
  rw [cells3] at g0
  have g1 : DataW.trod enc Try.prog w 0 (fun _ => true) true m 9 (([c0, c1, c2, c3, c4, c5, c6].drop 1).take (Try.prog.cellsOf 9)) = some y1 := hfd 1 _ rfl
  rw [cells9] at g1
  have g2 : DataW.trod enc Try.prog w 0 (fun _ => true) true m 9 (([c0, c1, c2, c3, c4, c5, c6].drop 2).take (Try.prog.cellsOf 9)) = some y2 := hfd 2 _ rfl
  rw [cells9] at g2
  have g3 : DataW.trod enc Try.prog w 0 (fun _ => true) true m 3 (([c0, c1, c2, c3, c4, c5, c6].drop 3).take (Try.prog.cellsOf 3)) = some y3 := hfd 3 _ rfl
  rw [cells3] at g3
  have g4 : DataW.trod enc Try.prog w 0 (fun _ => true) true m 29 (([c0, c1, c2, c3, c4, c5, c6].drop 4).take (Try.prog.cellsOf 29)) = some y4 := hfd 4 _ rfl
  rw [cells29] at g4
  have g5 : DataW.trod enc Try.prog w 0 (fun _ => true) true m 36 (([c0, c1, c2, c3, c4, c5, c6].drop 5).take (Try.prog.cellsOf 36)) = some y5 := hfd 5 _ rfl
  rw [cells36] at g5
  obtain ⟨k0, e0, -, -⟩ := DataW.trod_int Try.underlying3 (g0 : DataW.trod enc Try.prog w 0 (fun _ => true) true m 3 [c0] = some y0)
  obtain ⟨s1, e1, -, -⟩ := DataW.trod_string Try.underlying9 (g1 : DataW.trod enc Try.prog w 0 (fun _ => true) true m 9 [c1] = some y1)
  obtain ⟨s2, e2, -, -⟩ := DataW.trod_string Try.underlying9 (g2 : DataW.trod enc Try.prog w 0 (fun _ => true) true m 9 [c2] = some y2)
  obtain ⟨k3, e3, -, -⟩ := DataW.trod_int Try.underlying3 (g3 : DataW.trod enc Try.prog w 0 (fun _ => true) true m 3 [c3] = some y3)
  obtain ⟨fa, fn, fc, e4⟩ := a_slice Try.underlying29 (g4 : DataW.trod enc Try.prog w 0 (fun _ => true) true m 29 [c4] = some y4)
  obtain ⟨zs, m2, -, -, -, hlen2, hfd2⟩ := DataW.trod_struct Try.underlying36 (g5 : DataW.trod enc Try.prog w 0 (fun _ => true) true m 36 [c5, c6] = some y5)
  obtain ⟨z0, z1, rfl⟩ := two_of zs hlen2
  have q0 : DataW.trod enc Try.prog w 0 (fun _ => true) true m2 3 (([c5, c6].drop 0).take (Try.prog.cellsOf 3)) = some z0 := hfd2 0 _ rfl
  rw [cells3] at q0
  have q1 : DataW.trod enc Try.prog w 0 (fun _ => true) true m2 34 (([c5, c6].drop 1).take (Try.prog.cellsOf 34)) = some z1 := hfd2 1 _ rfl
  rw [cells34] at q1
  obtain ⟨k5, e5, -, -⟩ := DataW.trod_int Try.underlying3 (q0 : DataW.trod enc Try.prog w 0 (fun _ => true) true m2 3 [c5] = some z0)
  obtain ⟨ba, bn, bc, e6⟩ := a_slice Try.underlying34 (q1 : DataW.trod enc Try.prog w 0 (fun _ => true) true m2 34 [c6] = some z1)
  cases e0; cases e1; cases e2; cases e3; cases e5
  subst e4 e6
  exact ⟨k0, s1, s2, k3, fa, fn, fc, k5, ba, bn, bc, agg_of hcs⟩
end

/-! ### THE ROW's STEP -/
set_option maxRecDepth 100000 in
theorem lifted (os : Os) (started : os.Started) (H : Type) (enc : TypeId × Value → H) :
    ReturnsInHanded {} Try.checked os 7 .any (Rows.diskNoneSpec.pre6 enc Try.prog Try.f7 Rows.diskNoneRow.domain false) (Rows.diskNoneSpec.post enc Try.prog Try.f7 false true false false) := by
  refine returnsInHanded_of_change_sized (C := Try.checked) own started (by kernel_rfl) Try.func7
    (ChangeSpec.witness6 (enc := enc) (C := Try.checked) false ⟨#[], #[.agg #[.int .i64 0, .string ByteArray.empty, .string ByteArray.empty, .int .i64 0, .slice none 0 0, .int .i64 0, .slice none 0 0]], []⟩ 8 (by kernel_rfl) (by kernel_rfl) (by kernel_rfl) (by kernel_rfl)) ?_
  intro W base args ds gs before hval0 hW hcnd hsz0 _
  have hW' := hW
  have hlt := hW.lt
  obtain ⟨p, q, hA0, hV, rfl, hfz, hnd⟩ := hW
  have hA : DataW.TrodAll enc Try.prog W 0 (fun _ => true) true Try.f7.params.toList args.toList ds p := hA0
  rw [Try.params7] at hA
  obtain ⟨v0, vs0, d0, ds0, p0, q0, hargs, rfl, rfl, h0, r0⟩ := trodAll_cons hA
  obtain ⟨rfl, rfl, rfl⟩ := trodAll_nil r0
  obtain rfl : args = #[v0] := by cases args; simp_all
  obtain ⟨rfl, rfl⟩ := trodVars_none hV
  obtain ⟨k, A, B, n, fa, fn, fc, cn, ba, bn, bc, rfl⟩ := open_deed h0
  clear hA0 hval0
  refine (None3.law_call k A B n fa fn fc cn ba bn bc W).mono fun e W' ⟨he, bel⟩ => ?_
  subst he
  exact ⟨_, rfl, _, _, _, [], _, [], hW', trodAll_mk1 (shut_bool Try.underlying4 _), (trodAll_cons_mk (Below.trod laidOut (by kernel_rfl) (of_decide_eq_true (by kernel_rfl)) h0 bel (fun x hx => hlt x (by simp [hx]))) trodAll_mk0), rfl, bel.frame _, fun h => by cases h⟩

theorem over : Rows.diskNoneRow.holds Try.pinned (OpenSpec.ofChange Rows.diskNoneSpec) :=
  OpenClaim.holds_of_wide 7 Try.f7 rfl rfl rfl rfl rfl rfl rfl ⟨rfl, rfl, rfl, rfl, rfl⟩ rfl rfl rfl rfl rfl (by kernel_rfl) Try.func7 (by kernel_rfl)
    (of_decide_eq_true (by kernel_rfl)) (by unfold Func.isWrapper; first | (rw [if_pos (by decide +kernel)]; kernel_rfl) | (rw [if_neg (by decide +kernel)]; exact ⟨rfl, rfl⟩))
    (fun os started H enc _ => lifted os started H enc)

theorem proved : Rows.DiskNoneSaid :=
  over
#print axioms proved
end Go.Proofs.Ytilbffbmpgebmaa.diskNone
namespace Go.Proofs.Ytilbffbmpgebmaa
theorem diskNone_holds : Rows.DiskNoneSaid := diskNone.proved
end Go.Proofs.Ytilbffbmpgebmaa
