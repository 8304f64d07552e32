/- New, what Set refuses, and the law's comparison of texts. -/
import Derived.Test.YtiaggddpoddbcaaTake
import Derived.Test.YtiaggddpoddbcaaSetS
import Derived.BigQuiet
namespace Go.Proofs.Ytiaggddpoddbcaa.NewS
open Go.RowKit Go.Maps Go.Shelf
open Go.Proofs.Ytiaggddpoddbcaa.HeapMath
open Go.Proofs.Ytiaggddpoddbcaa.Heap
open Go.Proofs.Ytiaggddpoddbcaa.Turn
open Go.Proofs.Ytiaggddpoddbcaa.Before
open Go.Proofs.Ytiaggddpoddbcaa.RowB
open Go.Proofs.Ytiaggddpoddbcaa.IndexS
open Go.Proofs.Ytiaggddpoddbcaa.Peek
open Go.Proofs.Ytiaggddpoddbcaa.Take
set_option linter.unusedVariables false
set_option linter.unusedSimpArgs false
theorem new_ix (w : World) : IX w.heap.size w.heap.size (w.alloc (.cells #[.slice none 0 0, .map none] 73)) [] :=
  ⟨[], ⟨⟨_, _, ⟨heap_alloc_new w _, Nat.le_refl _, World.ownsRow_nil _ _ _ _, .inl ⟨rfl, rfl⟩, fun i j hi _ _ => absurd hi (by simp), fun e he => by cases he⟩⟩, by simp⟩, fun i _ hi => absurd hi (by simp), List.Perm.refl _⟩
theorem new_call (w : World) : Calls Try.prog 8 #[] w fun e w' => e = .returned (.pointer (some ⟨w.heap.size, 0, none⟩)) ∧ w' = w.alloc (.cells #[.slice none 0 0, .map none] 73) := by
  go_enter Try.func8, Try.ntmps8
  go_wp2_with fail
  go_ret
  exact ⟨rfl, rfl⟩
theorem set_late {b : Nat} {w : World} (k : Bs) (tick : Int) (h : tick < 0 ∨ 9007199254740992 < tick) : Calls Try.prog 27 #[ptr b, .string (mk k), .int .i64 tick] w fun e w' => e = .returned (.int .i64 70) ∧ w' = w := by
  unfold ptr
  rcases h with h | h
  · go_enter Try.func27, Try.ntmps27
    go_wp2_with fail
    go_ret
    exact ⟨rfl, rfl⟩
  · have h2 : ¬ tick < 0 := by omega
    go_enter Try.func27, Try.ntmps27
    go_wp2_with fail
    go_ret
    exact ⟨rfl, rfl⟩
/- a row of texts, as a law reads it -/
def TS (W : World) (v : Value) (ks : List Bs) : Prop := ∃ a c, v = .slice a ks.length c ∧ ∀ i (hi : i < ks.length), ∃ q, a = some ⟨q, 0, none⟩ ∧ W.cell? ⟨q, i, none⟩ = some (sv ks[i])
theorem TS.of_row {B n : Nat} {w : World} {v : Value} {ks : List Bs} (h : w.ownsRow B 9 1 v n (ks.map sv)) (hn : n = ks.length) : TS w v ks := by
  subst hn
  rcases Nat.eq_zero_or_pos ks.length with h0 | h0
  · obtain ⟨a, c, rfl⟩ := kshape h
    exact ⟨a, c, rfl, fun i hi => absurd hi (by omega)⟩
  · obtain ⟨q, c, rfl, _, hc⟩ := krow h h0
    exact ⟨_, c, rfl, fun i hi => ⟨q, rfl, hc i hi⟩⟩
theorem ret_b {a b : Bool} (h : a = b) : (Ending.returned (.bool a) : Ending) = .returned (.bool b) := by rw [h]
theorem str_eq (a b : Bs) : ((mk a).toList == (mk b).toList) = decide (a = b) := by
  rw [mk_list, mk_list]
  by_cases h : a = b <;> simp [h]
set_option maxHeartbeats 1000000 in
set_option maxRecDepth 100000 in
theorem texts_call {v1 v2 : Value} {l r : List Bs} {w : World} (h1 : TS w v1 l) (h2 : TS w v2 r) (hl : l.length ≤ 140737488355328) (hr : r.length ≤ 140737488355328) : Calls Try.prog 21 #[v1, v2] w fun e w' => e = .returned (.bool (decide (l = r))) ∧ ∃ m, w' = w.drewN m := by
  obtain ⟨a1, c1, rfl, g1⟩ := h1
  obtain ⟨a2, c2, rfl, g2⟩ := h2
  by_cases hlen : l.length = r.length
  · have HG := hid_of (And.intro g1 g2)
    have HE := hid_of hlen
    obtain ⟨L, HL⟩ : ∃ L, Hid (L = l.length) := ⟨_, hid_of rfl⟩
    rw [← hlen, ← HL.out]
    rw [← HL.out] at hl
    clear g1 g2 hr hlen
    go_enter Try.func21, Try.ntmps21
    go_wp2_with fail
    go_loopg [5] L (fun g s5 wx => ∃ i : Nat, i ≤ L ∧ L ≤ i + g ∧ s5 = .int .i64 (i : Int) ∧ Hid (l.take i = r.take i) ∧ Hid (∃ m, wx = w.drewN m))
    case atStart => exact ⟨0, by omega, by omega, rfl, hid_of (by simp), 0, rfl⟩
    case round =>
      obtain ⟨i, hi, hg, rfl, HA, R⟩ := hrel
      by_cases hlt : i < L
      · obtain ⟨g', rfl⟩ : ∃ g', gk = g' + 1 := ⟨gk - 1, by omega⟩
        have k1 : i < l.length := by rw [← HL.out]; exact hlt
        have k2 : i < r.length := by rw [← HE.out]; exact k1
        obtain ⟨q1, rfl, p1⟩ := HG.out.1 i k1
        obtain ⟨q2, rfl, p2⟩ := HG.out.2 i k2
        have c1 : wr.cell? ⟨q1, i, none⟩ = some (.string (mk l[i])) := by obtain ⟨m, rfl⟩ := R.out; exact p1
        have c2 : wr.cell? ⟨q2, i, none⟩ = some (.string (mk r[i])) := by obtain ⟨m, rfl⟩ := R.out; exact p2
        have hlx := str_eq l[i] r[i]
        have HN : Hid (l[i] = r[i] → l.take (i + 1) = r.take (i + 1)) := hid_of fun q => by
          rw [List.take_succ_eq_append_getElem k1, List.take_succ_eq_append_getElem k2, HA.out, q]
        have HF : Hid (l[i] ≠ r[i] → decide (l = r) = false) := hid_of fun q => decide_eq_false fun e => q (by subst e; rfl)
        generalize l[i] = x at *
        generalize r[i] = y at *
        have w2 : IntKind.i64.wrap ((i : Int) + 1) = (i : Int) + 1 := IntWalk.i64_in _ (by omega)
        clear p1 p2
        by_cases hxy : x = y
        · rw [decide_eq_true hxy] at hlx
          have HN2 := hid_of (HN.out hxy)
          clear hxy HN HF
          generalize mk x = X at *
          generalize mk y = Y at *
          go_wp2_with fail
          go_quiet (fail)
          go_wp2_with fail
          go_roundg g'
          case measure => omega
          case rel => exact ⟨i + 1, by omega, by omega, by simp, HN2, by obtain ⟨m, e⟩ := R.out; exact ⟨m + nq, by rw [e, World.drewN_drewN]⟩⟩
        · rw [decide_eq_false hxy] at hlx
          have HF2 := hid_of (HF.out hxy)
          clear hxy HN HF
          generalize mk x = X at *
          generalize mk y = Y at *
          go_wp2_with fail
          go_quiet (fail)
          go_wp2_with fail
          go_ret
          exact ⟨ret_b HF2.out.symm, by obtain ⟨m, e⟩ := R.out; exact ⟨m + nq, by rw [e, World.drewN_drewN]⟩⟩
      · have HT : Hid (decide (l = r) = true) := hid_of (decide_eq_true (by
          have := HA.out
          rwa [List.take_of_length_le (by have := HL.out; omega), List.take_of_length_le (by have := HL.out; have := HE.out; omega)] at this))
        go_wp2_with fail
        go_ret
        exact ⟨ret_b HT.out.symm, R.out⟩
  · have HF : Hid (decide (l = r) = false) := hid_of (decide_eq_false fun e => hlen (by rw [e]))
    have e1 : ((l.length : Int) != (r.length : Int)) = true := by simp; omega
    rw [HF.out]
    clear g1 g2
    generalize l.length = N at *
    generalize r.length = M at *
    clear hlen hl hr
    go_enter Try.func21, Try.ntmps21
    go_wp2_with fail
    go_ret
    exact ⟨rfl, 0, rfl⟩
end Go.Proofs.Ytiaggddpoddbcaa.NewS
