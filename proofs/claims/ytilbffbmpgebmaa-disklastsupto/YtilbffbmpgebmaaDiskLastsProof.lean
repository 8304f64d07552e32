/-
  DiskLasts holds at all scripts and crashes of bulk at most 1048576: a file whose name lasts, and that no change of names since touched, keeps its synced bytes; what is left of it is a beginning of what it was; a second crash changes nothing. The condition: the bound of the second form.
-/
import Derived.Test.YtilbffbmpgebmaaOpens
import Derived.Test.YtilbffbmpgebmaaLasts
import Derived.Test.YtilbffbmpgebmaaRows
import Derived.WalkKit
import Derived.ProofKit
import Derived.OpenShut
import Derived.ShutString
import Derived.JoinedCond
import Derived.Carry
namespace Go.Proofs.Ytilbffbmpgebmaa.diskLasts
open Go.ChangeShapes Go.WideShapes Go.ChangeAt Go.RowKit
open Go.Proofs.Ytilbffbmpgebmaa.Opens
set_option linter.unusedVariables false
theorem own : ownKnob Try.prog.godebug = none := by kernel_rfl
theorem laidOut : laidOutB Try.prog = true := by kernel_rfl
theorem small {H : Type} {d0 d1 d2 : DataW H} (hk : Rows.uptoSmall H [d0, d1, d2] = true) : Rows.uptoBulk d0 ≤ 1048576 ∧ Rows.uptoBulk d1 ≤ 1048576 ∧ Rows.uptoBulk d2 ≤ 1048576 := by
  have h : Rows.uptoBulkAll [d0, d1, d2] ≤ 1048576 := of_decide_eq_true hk
  simp only [Rows.uptoBulkAll] at h
  omega
theorem agg_two {v : Value} {c0 c1 : Value} (h : v.cells.toList = [c0, c1]) : v = .agg #[c0, c1] := by
  cases v with
  | agg cs =>
    have : cs = #[c0, c1] := by
      apply Array.toList_inj.1
      exact h
    rw [this]
  | _ => simp [Value.cells] at h
theorem open_crash {H : Type} {enc : TypeId × Value → H} {w : World} {v : Value} {d : DataW H} {p : List MemPlace} (h : DataW.Trod enc Try.prog w 0 (fun _ => true) true 36 v d p) :
    ∃ (cn : Int) (ba : Option Addr) (bn bc : Nat) (bytes : List Int), v = .agg #[.int .i64 cn, .slice ba bn bc] ∧ Crash.IntSl w (.slice ba bn bc) bytes ∧ bytes.length ≤ Rows.uptoBulk d := by
  obtain ⟨fuel, hf⟩ := h
  obtain ⟨xs, n, -, hx, hl, hlen, hfd⟩ := DataW.trod_struct Try.underlying36 hf
  rw [cells36] at hl
  obtain ⟨c0, c1, hcs⟩ := two_of _ hl
  obtain ⟨z0, z1, rfl⟩ := two_of xs hlen
  rw [hcs] at hfd
  have p0 : DataW.trod enc Try.prog w 0 (fun _ => true) true n 3 (([c0, c1].drop 0).take (Try.prog.cellsOf 3)) = some z0 := hfd 0 _ rfl
  rw [cells3] at p0
  have p1 : DataW.trod enc Try.prog w 0 (fun _ => true) true n 34 (([c0, c1].drop 1).take (Try.prog.cellsOf 34)) = some z1 := hfd 1 _ rfl
  rw [cells34] at p1
  obtain ⟨k0, e0, -, -⟩ := DataW.trod_int Try.underlying3 (p0 : DataW.trod enc Try.prog w 0 (fun _ => true) true n 3 [c0] = some z0)
  obtain ⟨ba, bn, bc, bytes, e1, hit, x6⟩ := open_bytes (p1 : DataW.trod enc Try.prog w 0 (fun _ => true) true n 34 [c1] = some z1)
  cases e0
  subst e1
  refine ⟨k0, ba, bn, bc, bytes, agg_two hcs, hit, ?_⟩
  have e : d = .agg ([z0, z1].map (·.1)) := by first | exact congrArg Prod.fst hx | (cases hx; rfl)
  rw [e]
  simp only [Rows.uptoBulk, List.map_cons, List.map_nil, Rows.uptoBulkAll]
  omega
set_option maxRecDepth 100000 in
theorem contract (H : Type) (enc : TypeId × Value → H) (W : World) (base : Nat) (args : Array Value) (ds gs : List (DataW H)) (before : List MemPlace)
    (hval : ∀ (j : Nat) t v, Try.f4.params[j]? = some t → args[j]? = some v → Value.okWide Try.prog W .any base t v)
    (hW : DataW.Whole enc Try.prog Try.f4.params.toList Rows.diskLastsSpec.vars false W args.toList ds gs before) (hk : Rows.uptoSmall H (ds ++ gs) = true) :
    Calls Try.prog 4 args W fun e W' => ∃ v, e = .returned v ∧ Rows.diskLastsSpec.post enc Try.prog Try.f4 false true false false W args v W' := by
  have hW' := hW
  have hlt := hW.lt
  obtain ⟨p, q, hA0, hV, rfl, hfz, hnd⟩ := hW
  have hA : DataW.TrodAll enc Try.prog W 0 (fun _ => true) true Try.f4.params.toList args.toList ds p := hA0
  rw [Try.params4] at hA hval
  obtain ⟨v0, vs0, d0, ds0, p0, q0, hargs, rfl, rfl, h0, r0⟩ := trodAll_cons hA
  obtain ⟨v1, vs1, d1, ds1, p1, q1, rfl, rfl, rfl, h1, r1⟩ := trodAll_cons r0
  obtain ⟨v2, vs2, d2, ds2, p2, q2, rfl, rfl, rfl, h2, r2⟩ := trodAll_cons r1
  obtain ⟨rfl, rfl, rfl⟩ := trodAll_nil r2
  obtain rfl : args = #[v0, v1, v2] := by cases args; simp_all
  obtain ⟨rfl, rfl⟩ := trodVars_none hV
  simp only [List.append_nil] at hk
  obtain ⟨hb0, hb1, hb2⟩ := small hk
  obtain ⟨f0, hf0⟩ := id h0
  obtain ⟨f1, hf1⟩ := id h1
  have hv0 : Value.okWide Try.prog W .any base 22 v0 := hval 0 22 v0 rfl rfl
  obtain ⟨a, n, c, rfl⟩ := okWide_slice Try.underlying22 hv0
  have hv1 : Value.okWide Try.prog W .any base 22 v1 := hval 1 22 v1 rfl rfl
  obtain ⟨am, nm, cm, rfl⟩ := okWide_slice Try.underlying22 hv1
  obtain ⟨l, hO, hw⟩ := open_deeds hf0
  obtain ⟨lm, hOm, hwm⟩ := open_deeds hf1
  obtain ⟨cn, ba, bn, bc, bytes, rfl, hI, hbl⟩ := open_crash h2
  clear hA0
  refine (Lasts.law_call _ l _ lm cn ba bn bc bytes W hO (Nat.le_trans hw hb0) hOm (Nat.le_trans hwm hb1) hI (Nat.le_trans hbl hb2)).mono fun e W' ⟨he, bel⟩ => ?_
  subst he
  exact ⟨_, rfl, _, _, _, [], _, [], hW', trodAll_mk1 (shut_bool Try.underlying4 _), (trodAll_cons_mk (Below.trod laidOut (by kernel_rfl) (of_decide_eq_true (by kernel_rfl)) h0 bel (fun x hx => hlt x (by simp [hx]))) (trodAll_cons_mk (Below.trod laidOut (by kernel_rfl) (of_decide_eq_true (by kernel_rfl)) h1 bel (fun x hx => hlt x (by simp [hx]))) (trodAll_cons_mk (Below.trod laidOut (by kernel_rfl) (of_decide_eq_true (by kernel_rfl)) h2 bel (fun x hx => hlt x (by simp [hx]))) trodAll_mk0))), rfl, bel.frame _, fun h => by cases h⟩

set_option maxRecDepth 100000 in
theorem lifted (os : Os) (started : os.Started) (H : Type) (enc : TypeId × Value → H) (F : Stop.Interp) :
    ReturnsInHanded {} Try.checked os 4 .any ((Rows.OpenSpec.upto Rows.diskLastsSpec).pre6 enc Try.prog Try.f4 Rows.diskLastsUptoRow.domain false) (((Rows.OpenSpec.upto Rows.diskLastsSpec).at F).post enc Try.prog Try.f4 false true false false) := by
  refine returnsInHanded_of_cond (C := Try.checked) (s := Rows.OpenSpec.upto Rows.diskLastsSpec) (k := Rows.uptoSmall) rfl own started (by kernel_rfl) Try.func4
    (OpenSpec.witness (enc := enc) (C := Try.checked) (s := Rows.OpenSpec.upto Rows.diskLastsSpec) (k := Rows.uptoSmall) rfl false ⟨#[], #[.slice none 0 0, .slice none 0 0, .agg #[.int .i64 0, .slice none 0 0]], []⟩ 8 (by kernel_rfl) (by kernel_rfl) (by kernel_rfl)
      (x := ([.nil, .nil, .agg [.lit (.int .i64 0), .nil]], [], [])) (by kernel_rfl) rfl (by kernel_rfl)) ?_
  intro W base args ds gs before hval hW _ hk _
  exact contract H enc W base args ds gs before hval hW hk

theorem proved : Rows.DiskLastsUptoSaid :=
  OpenClaim.holds_of_cond 4 Try.f4 rfl rfl rfl rfl rfl rfl rfl ⟨rfl, rfl, rfl, rfl, rfl⟩ rfl rfl rfl rfl rfl (by kernel_rfl) Try.func4 (by kernel_rfl)
    (of_decide_eq_true (by kernel_rfl)) (by unfold Func.isWrapper; first | (rw [if_pos (by decide +kernel)]; kernel_rfl) | (rw [if_neg (by decide +kernel)]; exact ⟨rfl, rfl⟩))
    (fun os started H enc _ F => lifted os started H enc F)
#print axioms proved
end Go.Proofs.Ytilbffbmpgebmaa.diskLasts
namespace Go.Proofs.Ytilbffbmpgebmaa
theorem diskLasts_holds : Rows.DiskLastsUptoSaid := diskLasts.proved
end Go.Proofs.Ytilbffbmpgebmaa
