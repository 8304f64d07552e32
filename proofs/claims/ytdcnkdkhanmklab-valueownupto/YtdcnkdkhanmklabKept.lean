/- kept: is a value as it was, with the marks behind its lists? -/
import Derived.Test.YtdcnkdkhanmklabSpare
import Derived.Test.YtdcnkdkhanmklabRSame
namespace Go.Proofs.Ytdcnkdkhanmklab.Kept
open Go.RowKit Go.Maps
open Go.Proofs.Ytdcnkdkhanmklab.SetMath
open Go.Proofs.Ytdcnkdkhanmklab.ValueMath
open Go.Proofs.Ytdcnkdkhanmklab.Base
open Go.Proofs.Ytdcnkdkhanmklab.Vals
open Go.Proofs.Ytdcnkdkhanmklab.SpareM
open Go.Proofs.Ytdcnkdkhanmklab.Spare
set_option linter.unusedVariables false
set_option linter.unusedSimpArgs false
theorem SPbelow {B : Nat} {w w' : World} {x : Vl} {g1 c1 g2 c2 g3 c3 : Nat} (h : SP B w x g1 c1 g2 c2 g3 c3) (b : Below w.heap.size w w') : SP B w' x g1 c1 g2 c2 g3 c3 := ⟨h.l.below b, FRow.row_below h.f b, FRow.row_below h.r b⟩
theorem va_sp {B : Nat} {w : World} {x : Vl} {g1 c1 g2 c2 g3 c3 : Nat} (h : SP B w x g1 c1 g2 c2 g3 c3) : VA w (spV x g1 c1 g2 c2 g3 c3) x := by
  refine ⟨_, _, _, rfl, ?_, ?_, ?_⟩
  · obtain ⟨a, c, e, hc, hr⟩ := h.l.sl
    injection e with e1 e2 e3
    subst e1 e3
    rw [List.length_append] at hc
    refine ⟨_, _, rfl, by omega, ?_⟩
    rcases hr with q | ⟨g, o, e, _, hr⟩
    · simp at q
    · exact .inr ⟨g, o, e, trivial, fun j y hj => hr j y (by rw [List.getElem?_append_left (List.getElem?_eq_some_iff.1 hj).1]; exact hj)⟩
  · obtain ⟨a, c, e, hc, hr⟩ := FRow.fs_row h.f
    injection e with e1 e2 e3
    subst e1 e3
    rw [List.length_append] at hc
    refine ⟨_, _, rfl, by omega, ?_⟩
    rcases hr with q | ⟨g, o, e, hr⟩
    · simp at q
    · exact .inr ⟨g, o, e, fun k hk => by have := hr k (by rw [List.length_append]; omega); rw [List.getElem_append_left hk] at this; exact this⟩
  · obtain ⟨a, c, e, hc, hr⟩ := ERow.fs_row h.r
    injection e with e1 e2 e3
    subst e1 e3
    rw [List.length_append] at hc
    refine ⟨_, _, rfl, by omega, ?_⟩
    rcases hr with q | ⟨g, o, e, hr⟩
    · simp at q
    · exact .inr ⟨g, o, e, fun k hk => by have := hr k (by rw [List.length_append]; omega); rw [List.getElem_append_left hk] at this; exact this⟩
/- the marks -/
theorem marks {B : Nat} {w : World} {x : Vl} {g1 c1 g2 c2 g3 c3 : Nat} (h : SP B w x g1 c1 g2 c2 g3 c3) :
    (w.cell? ⟨g1, x.list.length, none⟩ = some (.string ⟨#[115, 112, 97, 114, 101]⟩) ∧ w.cell? ⟨g2, List.length x.fields * 2, none⟩ = some (.string ⟨#[115, 112, 97, 114, 101]⟩) ∧ w.cell? ⟨g3, List.length x.ranked * 2 + 1, none⟩ = some (.int .i64 77)) ∧ x.list.length + 1 ≤ c1 ∧ List.length x.fields + 1 ≤ c2 ∧ List.length x.ranked + 1 ≤ c3 := by
  obtain ⟨a, c, e, hc, hr⟩ := h.l.sl
  injection e with e1 e2 e3
  subst e1 e3
  obtain ⟨a', c', e, hc', hr'⟩ := FRow.fs_row h.f
  injection e with e1 e2 e3
  subst e1 e3
  obtain ⟨a'', c'', e, hc'', hr''⟩ := ERow.fs_row h.r
  injection e with e1 e2 e3
  subst e1 e3
  rw [List.length_append] at hc hc' hc''
  refine ⟨⟨?_, ?_, ?_⟩, hc, hc', hc''⟩
  · rcases hr with q | ⟨g, o, e, _, hr⟩
    · simp at q
    · injection e with e
      injection e with e1 e2
      subst e1 e2
      have := hr x.list.length sp (by simp)
      rw [Nat.zero_add] at this
      exact this
  · rcases hr' with q | ⟨g, o, e, hr⟩
    · simp at q
    · injection e with e
      injection e with e1 e2
      subst e1 e2
      have := (hr (List.length x.fields) (by rw [List.length_append]; simp)).1
      rw [Nat.zero_add] at this
      simp at this
      exact this
  · rcases hr'' with q | ⟨g, o, e, hr⟩
    · simp at q
    · injection e with e
      injection e with e1 e2
      subst e1 e2
      have := (hr (List.length x.ranked) (by rw [List.length_append]; simp)).2
      rw [Nat.zero_add] at this
      simpa using this
set_option maxHeartbeats 8000000 in
set_option maxRecDepth 100000 in
theorem kept_call {B : Nat} {w : World} {v : Value} {x : Vl} {g1 c1 g2 c2 g3 c3 : Nat} (h : SP B w x g1 c1 g2 c2 g3 c3) (hv : VA w v x) (hf : Fit x) :
    Calls Try.prog 8 #[spV x g1 c1 g2 c2 g3 c3, v] w fun e w' => e = .returned (.bool true) ∧ Below w.heap.size w w' := by
  have HS := hid_of fun (W : World) (hW : Below w.heap.size w W) => RSame.rsame_call (va_sp (SPbelow h hW)) (hv.below hW) hf hf
  rw [sm_self] at HS
  obtain ⟨hm, hc1, hc2, hc3⟩ := marks h
  obtain ⟨f1, f2, f3⟩ := Same.Fit.len hf
  obtain ⟨a, b, c, rfl, h1, h2, h3⟩ := hv
  obtain ⟨aa, ac, rfl, _, _⟩ := id h1
  obtain ⟨ba, bc, rfl, _, _⟩ := id h2
  obtain ⟨ca, cc, rfl, _, _⟩ := id h3
  clear h1 h2 h3 hf h
  unfold spV at HS ⊢
  generalize x.list.length = n1 at *
  generalize List.length x.fields = n2 at *
  generalize List.length x.ranked = n3 at *
  generalize mk x.text = X at *
  generalize x.kind = xk at *
  obtain ⟨V, hV⟩ : ∃ V, V = (w.alloc (.cells #[.int .i64 xk, .string X, .slice (some ⟨g1, 0, none⟩) n1 c1, .slice (some ⟨g2, 0, none⟩) n2 c2, .slice (some ⟨g3, 0, none⟩) n3 c3] 26)).alloc (.cells #[.int .i64 xk, .string X, .slice aa n1 ac, .slice ba n2 bc, .slice ca n3 cc] 26) := ⟨_, rfl⟩
  have bV : Below w.heap.size w V := by rw [hV]; exact FRow.bel (FRow.bnew w _) (FRow.bnew _ _) (Nat.le_refl _)
  have v0 : V.heap[w.heap.size]? = some (.cells #[.int .i64 xk, .string X, .slice (some ⟨g1, 0, none⟩) n1 c1, .slice (some ⟨g2, 0, none⟩) n2 c2, .slice (some ⟨g3, 0, none⟩) n3 c3] 26 (0, 0)) := by rw [hV, Lib.alloc_old _ _ _ (by simp)]; exact heap_alloc_new w _
  have v1 : V.heap[w.heap.size + 1]? = some (.cells #[.int .i64 xk, .string X, .slice aa n1 ac, .slice ba n2 bc, .slice ca n3 cc] 26 (0, 0)) := by
    rw [hV]
    have := heap_alloc_new (w.alloc (.cells #[.int .i64 xk, .string X, .slice (some ⟨g1, 0, none⟩) n1 c1, .slice (some ⟨g2, 0, none⟩) n2 c2, .slice (some ⟨g3, 0, none⟩) n3 c3] 26)) (.cells #[.int .i64 xk, .string X, .slice aa n1 ac, .slice ba n2 bc, .slice ca n3 cc] 26)
    simpa using this
  have HV := hid_of hV
  have HX : Hid (∀ W, Below V.heap.size V W → (W.cell? ⟨w.heap.size, 0, none⟩ = some (.int .i64 xk) ∧ W.cell? ⟨w.heap.size, 1, none⟩ = some (.string X) ∧ W.cell? ⟨w.heap.size, 2, none⟩ = some (.slice (some ⟨g1, 0, none⟩) n1 c1) ∧ W.cell? ⟨w.heap.size, 3, none⟩ = some (.slice (some ⟨g2, 0, none⟩) n2 c2) ∧ W.cell? ⟨w.heap.size, 4, none⟩ = some (.slice (some ⟨g3, 0, none⟩) n3 c3)) ∧ (W.cell? ⟨w.heap.size + 1, 0, none⟩ = some (.int .i64 xk) ∧ W.cell? ⟨w.heap.size + 1, 1, none⟩ = some (.string X) ∧ W.cell? ⟨w.heap.size + 1, 2, none⟩ = some (.slice aa n1 ac) ∧ W.cell? ⟨w.heap.size + 1, 3, none⟩ = some (.slice ba n2 bc) ∧ W.cell? ⟨w.heap.size + 1, 4, none⟩ = some (.slice ca n3 cc)) ∧ W.cell? ⟨g1, n1, none⟩ = some (.string ⟨#[115, 112, 97, 114, 101]⟩) ∧ W.cell? ⟨g2, n2 * 2, none⟩ = some (.string ⟨#[115, 112, 97, 114, 101]⟩) ∧ W.cell? ⟨g3, n3 * 2 + 1, none⟩ = some (.int .i64 77)) := hid_of fun W hW => ⟨(box5 ((hW.block _ (lt_of v0)).trans v0)).1, (box5 ((hW.block _ (lt_of v1)).trans v1)).1, FRow.cell_on (FRow.bel bV hW (Nat.le_refl _)) hm.1, FRow.cell_on (FRow.bel bV hW (Nat.le_refl _)) hm.2.1, FRow.cell_on (FRow.bel bV hW (Nat.le_refl _)) hm.2.2⟩
  have HB := hid_of bV
  have HVV := hid_of (Below.refl V.heap.size V)
  have hk1 := fun W => cut_hi (some ⟨g1, 0, none⟩) n1 c1 (n1 + 1) ((n1 : Int) + 1) (by omega) hc1 W
  have hk2 : ∀ W, (Instr.slice 23 (.slice (some ⟨g2, 0, none⟩) n2 c2) none (some (.int .i64 ((n2 : Int) + 1))) none).run Try.prog W = .ok (.slice (some ⟨g2, 0, none⟩) (n2 + 1) c2) W := fun W => FRow.cut_hi (some ⟨g2, 0, none⟩) n2 c2 (n2 + 1) hc2 W
  have hk3 : ∀ W, (Instr.slice 24 (.slice (some ⟨g3, 0, none⟩) n3 c3) none (some (.int .i64 ((n3 : Int) + 1))) none).run Try.prog W = .ok (.slice (some ⟨g3, 0, none⟩) (n3 + 1) c3) W := fun W => ERow.cut_hi (some ⟨g3, 0, none⟩) n3 c3 (n3 + 1) hc3 W
  have e1 : IntKind.i64.wrap ((n1 : Int) + 1) = (n1 : Int) + 1 := IntWalk.i64_in _ (by omega)
  have e2 : IntKind.i64.wrap ((n2 : Int) + 1) = (n2 : Int) + 1 := IntWalk.i64_in _ (by omega)
  have e3 : IntKind.i64.wrap ((n3 : Int) + 1) = (n3 : Int) + 1 := IntWalk.i64_in _ (by omega)
  have d1 : n1 < n1 + 1 := by omega
  have d2 : n2 < n2 + 1 := by omega
  have d3 : n3 < n3 + 1 := by omega
  have i1 : (0 : Int) ≤ (n1 : Int) := by omega
  have i2 : (0 : Int) ≤ (n2 : Int) := by omega
  have i3 : (0 : Int) ≤ (n3 : Int) := by omega
  have j1 : (n1 : Int) < (n1 : Int) + 1 := by omega
  have j2 : (n2 : Int) < (n2 : Int) + 1 := by omega
  have j3 : (n3 : Int) < (n3 : Int) + 1 := by omega
  have l1 : (n1 : Int) < ((n1 + 1 : Nat) : Int) := by omega
  have l2 : (n2 : Int) < ((n2 + 1 : Nat) : Int) := by omega
  have l3 : (n3 : Int) < ((n3 + 1 : Nat) : Int) := by omega
  clear v0 v1 bV hV hm
  go_enter Try.func8, Try.ntmps8
  go_wp2_with fail
  rw [← HV.out]
  go_region_held3 (fun W => (W.cell? ⟨w.heap.size, 0, none⟩ = some (.int .i64 xk) ∧ W.cell? ⟨w.heap.size, 1, none⟩ = some (.string X) ∧ W.cell? ⟨w.heap.size, 2, none⟩ = some (.slice (some ⟨g1, 0, none⟩) n1 c1) ∧ W.cell? ⟨w.heap.size, 3, none⟩ = some (.slice (some ⟨g2, 0, none⟩) n2 c2) ∧ W.cell? ⟨w.heap.size, 4, none⟩ = some (.slice (some ⟨g3, 0, none⟩) n3 c3)) ∧ (W.cell? ⟨w.heap.size + 1, 0, none⟩ = some (.int .i64 xk) ∧ W.cell? ⟨w.heap.size + 1, 1, none⟩ = some (.string X) ∧ W.cell? ⟨w.heap.size + 1, 2, none⟩ = some (.slice aa n1 ac) ∧ W.cell? ⟨w.heap.size + 1, 3, none⟩ = some (.slice ba n2 bc) ∧ W.cell? ⟨w.heap.size + 1, 4, none⟩ = some (.slice ca n3 cc)) ∧ W.cell? ⟨g1, n1, none⟩ = some (.string ⟨#[115, 112, 97, 114, 101]⟩) ∧ W.cell? ⟨g2, n2 * 2, none⟩ = some (.string ⟨#[115, 112, 97, 114, 101]⟩) ∧ W.cell? ⟨g3, n3 * 2 + 1, none⟩ = some (.int .i64 77))
    (first | exact HX.out V HVV.out | exact HX.out s1 VS1.out)
    (first | (go_at_call 7; refine (HS.out _ HB.out.drew).mono ?_; rintro e s1 ⟨rfl, q1⟩; have q1' : Below V.heap.size V s1 := ⟨q1.os, q1.tape, q1.output, q1.size, q1.block⟩; have BS1 := hid_of (FRow.bel HB.out q1' (Nat.le_refl _)); have VS1 := hid_of q1'; clear q1 q1'))
  all_goals go_wp2_with fail
  all_goals go_ret
  all_goals exact ⟨rfl, BS1.out⟩
end Go.Proofs.Ytdcnkdkhanmklab.Kept
