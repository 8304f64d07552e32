/-
  DiskSwaps holds at every two texts and every crash: a file that was written anew beside the old one, synced and renamed over it is behind a crash the old one or the new one, whole. No condition.
-/
import Derived.Test.YtilbffbmpgebmaaSwaps2
import Derived.Test.YtilbffbmpgebmaaRows
import Derived.WalkKit
import Derived.ProofKit
import Derived.OpenShut
import Derived.ShutString
import Derived.SizedLaws
import Derived.ChangeSlices
import Derived.Carry
namespace Go.Proofs.Ytilbffbmpgebmaa.diskSwaps
open Go.ChangeShapes Go.WideShapes Go.ChangeAt Go.RowKit
open Go.ChangeMaps (open_string shut_string)
open Go.Proofs.Ytilbffbmpgebmaa.Crash
set_option linter.unusedVariables false
theorem own : ownKnob Try.prog.godebug = none := by kernel_rfl
theorem laidOut : laidOutB Try.prog = true := by kernel_rfl
theorem cells36 : Try.prog.cellsOf 36 = 2 := by kernel_rfl
theorem cells3 : Try.prog.cellsOf 3 = 1 := by kernel_rfl
theorem cells34 : Try.prog.cellsOf 34 = 1 := by kernel_rfl
theorem two_of {α : Type} (l : List α) (h : l.length = 2) : ∃ a b, l = [a, b] := by
  match l, h with
  | [a, b], _ => exact ⟨a, b, rfl⟩
theorem agg_of {v : Value} {c0 c1 : Value} (h : v.cells.toList = [c0, c1]) : v = .agg #[c0, c1] := by
  cases v with
  | agg cs =>
    have : cs = #[c0, c1] := by
      apply Array.toList_inj.1
      exact h
    rw [this]
  | _ => simp [Value.cells] at h
theorem spot_none {w : World} {a : Addr} {v : Value} (h : w.cell? a = some v) : a.spot = none := by
  unfold World.cell? at h
  rcases hh : w.heap[a.block]? with _ | o
  · rw [hh] at h; cases h
  · rw [hh] at h
    cases o with
    | cells c ty fz =>
      cases hs : a.spot with
      | none => rfl
      | some s => simp [hs] at h
    | _ => cases h
/- a slice of numbers that an argument holds -/
theorem open_sl {H : Type} {enc : TypeId × Value → H} {w : World} {fuel : Nat} {c : Value} {x : DataW H × List MemPlace} (h : DataW.trod enc Try.prog w 0 (fun _ => true) true fuel 34 [c] = some x) :
    ∃ a0 n0 c0 bytes, c = .slice a0 n0 c0 ∧ IntSl w (.slice a0 n0 c0) bytes ∧ bytes.length ≤ 9223372036854775807 := by
  rcases ChangeShapes.open_ints Try.underlying34 Try.underlying3 cells3 h with ⟨e, -⟩ | ⟨a, len, cap, zs, e, -, hlc, hm, hz, -, hat, -⟩
  · cases e
    exact ⟨none, 0, 0, [], rfl, ⟨none, 0, rfl, Or.inl rfl⟩, by simp⟩
  · cases e
    have hl : len ≤ zs.length := by rw [hz]; simp; exact hlc
    have hlen : (zs.take len).length = len := by rw [List.length_take]; omega
    refine ⟨some a, len, cap, zs.take len, rfl, ⟨some a, cap, by rw [hlen], ?_⟩, by rw [hlen]; have : maxLen = 9223372036854775807 := rfl; omega⟩
    by_cases h0 : len = 0
    · left; rw [h0]; rfl
    · right
      have hsp := spot_none (hat 0 (by omega))
      have ha : a = ⟨a.block, a.off, none⟩ := by
        cases a
        simp [Addr.add] at hsp
        simp [hsp]
      refine ⟨a.block, a.off, by rw [← ha], fun j hj => ?_⟩
      have hj2 : j < zs.length := by omega
      have h1 := hat j hj2
      rw [ha] at h1
      rw [List.getElem_take]
      have ea : (⟨a.block, a.off, none⟩ : Addr).add j = ⟨a.block, a.off + j, none⟩ := by
        unfold Addr.add
        split
        · rename_i h; rw [h]; rfl
        · rfl
      simp only [List.getD_eq_getElem?_getD, List.getElem?_eq_getElem hj2, Option.getD_some] at h1
      rw [ea] at h1
      exact h1
theorem open_crash {H : Type} {enc : TypeId × Value → H} {w : World} {v : Value} {d : DataW H} {p : List MemPlace} (h : DataW.Trod enc Try.prog w 0 (fun _ => true) true 36 v d p) :
    ∃ cn a0 n0 c0 bytes, v = .agg #[.int .i64 cn, .slice a0 n0 c0] ∧ IntSl w (.slice a0 n0 c0) bytes ∧ bytes.length ≤ 9223372036854775807 := by
  obtain ⟨fuel, hf⟩ := h
  obtain ⟨xs, n, -, -, hl, hlen, hfd⟩ := DataW.trod_struct Try.underlying36 hf
  rw [cells36] at hl
  obtain ⟨c0, c1, hcs⟩ := two_of _ hl
  obtain ⟨y0, y1, rfl⟩ := two_of xs hlen
  rw [hcs] at hfd
  have g0 : DataW.trod enc Try.prog w 0 (fun _ => true) true n 3 (([c0, c1].drop 0).take (Try.prog.cellsOf 3)) = some y0 := hfd 0 _ rfl
  rw [cells3] at g0
  have g1 : DataW.trod enc Try.prog w 0 (fun _ => true) true n 34 (([c0, c1].drop 1).take (Try.prog.cellsOf 34)) = some y1 := hfd 1 _ rfl
  rw [cells34] at g1
  obtain ⟨k0, e0, -, -⟩ := DataW.trod_int Try.underlying3 (g0 : DataW.trod enc Try.prog w 0 (fun _ => true) true n 3 [c0] = some y0)
  obtain ⟨a0, n0, c0', bytes, e1, hI, hb⟩ := open_sl (g1 : DataW.trod enc Try.prog w 0 (fun _ => true) true n 34 [c1] = some y1)
  cases e0
  subst e1
  exact ⟨k0, a0, n0, c0', bytes, agg_of hcs, hI, hb⟩

/-! ### THE ROW's STEP -/
set_option maxRecDepth 100000 in
theorem lifted (os : Os) (started : os.Started) (H : Type) (enc : TypeId × Value → H) :
    ReturnsInHanded {} Try.checked os 5 .any (Rows.diskSwapsSpec.pre6 enc Try.prog Try.f5 Rows.diskSwapsRow.domain false) (Rows.diskSwapsSpec.post enc Try.prog Try.f5 false true false false) := by
  refine returnsInHanded_of_change_sized (C := Try.checked) own started (by kernel_rfl) Try.func5
    (ChangeSpec.witness6 (enc := enc) (C := Try.checked) false ⟨#[], #[.string ByteArray.empty, .string ByteArray.empty, .agg #[.int .i64 0, .slice none 0 0]], []⟩ 8 (by kernel_rfl) (by kernel_rfl) (by kernel_rfl) (by kernel_rfl)) ?_
  intro W base args ds gs before hval0 hW hcnd hsz0 _
  have hsz : (DataW.weightsEach Try.prog (Try.f5.params.toList ++ Rows.diskSwapsSpec.plain.varTypes Try.prog) (ds ++ gs)).all (· ≤ reachBytes) = true := hsz0
  have hval : ∀ (j : Nat) t v, Try.f5.params[j]? = some t → args[j]? = some v → Value.okWide Try.prog W .any base t v := hval0
  have hW' := hW
  have hlt := hW.lt
  obtain ⟨p, q, hA0, hV, rfl, hfz, hnd⟩ := hW
  have hA : DataW.TrodAll enc Try.prog W 0 (fun _ => true) true Try.f5.params.toList args.toList ds p := hA0
  rw [Try.params5] at hA hval hsz
  obtain ⟨v0, vs0, d0, ds0, p0, q0, hargs, rfl, rfl, h0, r0⟩ := trodAll_cons hA
  obtain ⟨v1, vs1, d1, ds1, p1, q1, rfl, rfl, rfl, h1, r1⟩ := trodAll_cons r0
  obtain ⟨v2, vs2, d2, ds2, p2, q2, rfl, rfl, rfl, h2, r2⟩ := trodAll_cons r1
  obtain ⟨rfl, rfl, rfl⟩ := trodAll_nil r2
  obtain rfl : args = #[v0, v1, v2] := by cases args; simp_all
  obtain ⟨rfl, rfl⟩ := trodVars_none hV
  obtain ⟨a0, rfl, rfl, rfl, w0⟩ := open_string Try.underlying9 (hval 0 9 v0 rfl rfl) h0
  obtain ⟨a1, rfl, rfl, rfl, w1⟩ := open_string Try.underlying9 (hval 1 9 v1 rfl rfl) h1
  obtain ⟨cn, s0, n0, c0, bytes, rfl, hI, hb⟩ := open_crash h2
  clear hA0 hval0
  have s0' : a0.size ≤ 140737488351232 := by have := sized_string hsz (j := 0) (t := 9) rfl rfl; simpa [reachBytes] using this
  have s1' : a1.size ≤ 140737488351232 := by have := sized_string hsz (j := 1) (t := 9) rfl rfl; simpa [reachBytes] using this
  refine (Swaps2.law_call a0 a1 cn s0 n0 c0 bytes W (by omega) (by omega) hb hI).mono fun e W' ⟨he, bel⟩ => ?_
  subst he
  exact ⟨_, rfl, _, _, _, [], _, [], hW', trodAll_mk1 (shut_bool Try.underlying4 _), (trodAll_cons_mk (shut_string Try.underlying9 w0) (trodAll_cons_mk (shut_string Try.underlying9 w1) (trodAll_cons_mk (Below.trod laidOut (by kernel_rfl) (of_decide_eq_true (by kernel_rfl)) h2 bel (fun x hx => hlt x (by simp [hx]))) trodAll_mk0))), rfl, bel.frame _, fun h => by cases h⟩

theorem over : Rows.diskSwapsRow.holds Try.pinned (OpenSpec.ofChange Rows.diskSwapsSpec) :=
  OpenClaim.holds_of_wide 5 Try.f5 rfl rfl rfl rfl rfl rfl rfl ⟨rfl, rfl, rfl, rfl, rfl⟩ rfl rfl rfl rfl rfl (by kernel_rfl) Try.func5 (by kernel_rfl)
    (of_decide_eq_true (by kernel_rfl)) (by unfold Func.isWrapper; first | (rw [if_pos (by decide +kernel)]; kernel_rfl) | (rw [if_neg (by decide +kernel)]; exact ⟨rfl, rfl⟩))
    (fun os started H enc _ => lifted os started H enc)

theorem proved : Rows.DiskSwapsSaid :=
  over
#print axioms proved
end Go.Proofs.Ytilbffbmpgebmaa.diskSwaps
namespace Go.Proofs.Ytilbffbmpgebmaa
theorem diskSwaps_holds : Rows.DiskSwapsSaid := diskSwaps.proved
end Go.Proofs.Ytilbffbmpgebmaa
