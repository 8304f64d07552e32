/- same: two slices of fields, field by field. -/
import Derived.Test.YtolihcgpnoacaaaDoorNeq
namespace Go.Proofs.YtolihcgpnoacaaaDoor.Same
open Go.RowKit Go.Maps
open Go.Proofs.YtolihcgpnoacaaaDoor.DictMath
open Go.Proofs.YtolihcgpnoacaaaDoor.Base
open Go.Proofs.YtolihcgpnoacaaaDoor.Neq
set_option linter.unusedVariables false

set_option maxHeartbeats 2000000 in
set_option maxRecDepth 100000 in
theorem same_call (v u : Value) (l r : FL) (w : World) (hv : FS w v l) (hu : FS w u r) (hl : l.length ≤ 140737488355328) (hr : r.length ≤ 140737488355328) : Calls Tryd.prog 17 #[v, u] w fun e w' => e = .returned (.bool (decide (l = r))) ∧ Below w.heap.size w w' := by
  obtain ⟨a, c, rfl, hv⟩ := hv
  obtain ⟨d, f, rfl, hu⟩ := hu
  by_cases hlen : l.length = r.length
  · have HV := hid_of hv
    have HU := hid_of hu
    have HL := hid_of hlen
    obtain ⟨N, hN⟩ : ∃ N, N = l.length := ⟨_, rfl⟩
    have HN := hid_of hN
    rw [← hlen, ← hN]
    have hlN : N ≤ 140737488355328 := by rw [hN]; exact hl
    clear hv hu hlen hN hl hr
    go_enter Tryd.func17, Tryd.ntmps17
    go_wp2_with fail
    go_loopg [5] N (fun g si wx => ∃ k : Nat, k ≤ N ∧ N ≤ k + g ∧ si = .int .i64 (k : Int) ∧ Hid (l.take k = r.take k) ∧ Hid (Below w.heap.size w wx))
    case atStart => exact ⟨0, by omega, by omega, rfl, hid_of rfl, hid_of (Below.refl _ _)⟩
    case round =>
      obtain ⟨k, hk, hg, rfl, HT, HB⟩ := hrel
      by_cases hlt : k < N
      · obtain ⟨g', rfl⟩ : ∃ g', gk = g' + 1 := ⟨gk - 1, by omega⟩
        have k1 : k < l.length := by rw [← HN.out]; exact hlt
        have k2 : k < r.length := by rw [← HL.out, ← HN.out]; exact hlt
        obtain ⟨ga, oa, rfl, ha⟩ : ∃ g o, a = some ⟨g, o, none⟩ ∧ ∀ k (h : k < l.length), wr.cell? ⟨g, o + k * 2, none⟩ = some (.string (mk (l[k]'h).1)) ∧ wr.cell? ⟨g, o + k * 2 + 1, none⟩ = some (.string (mk (l[k]'h).2)) := by
          rcases HV.out with h | ⟨g, o, e, h⟩
          · subst h; simp at k1
          · exact ⟨g, o, e, fun k hk => ⟨cell_on HB.out (h k hk).1, cell_on HB.out (h k hk).2⟩⟩
        obtain ⟨gd, od, rfl, hd⟩ : ∃ g o, d = some ⟨g, o, none⟩ ∧ ∀ k (h : k < r.length), wr.cell? ⟨g, o + k * 2, none⟩ = some (.string (mk (r[k]'h).1)) ∧ wr.cell? ⟨g, o + k * 2 + 1, none⟩ = some (.string (mk (r[k]'h).2)) := by
          rcases HU.out with h | ⟨g, o, e, h⟩
          · subst h; simp at k2
          · exact ⟨g, o, e, fun k hk => ⟨cell_on HB.out (h k hk).1, cell_on HB.out (h k hk).2⟩⟩
        obtain ⟨a0, a1⟩ := ha k k1
        obtain ⟨d0, d1⟩ := hd k k2
        have e2 : IntKind.i64.wrap ((k : Int) + 1) = (k : Int) + 1 := IntWalk.i64_in _ (by omega)
        have g2 : (k : Int) < (N : Int) := by omega
        have HT2 : Hid (l[k]'k1 = r[k]'k2 → l.take (k + 1) = r.take (k + 1)) := hid_of fun q => by
          rw [List.take_succ_eq_append_getElem k1, List.take_succ_eq_append_getElem k2, HT.out, q]
        have HNE : Hid (l[k]'k1 ≠ r[k]'k2 → l ≠ r) := hid_of fun q e => q (by subst e; rfl)
        obtain ⟨p, hp⟩ : ∃ p, p = l[k]'k1 := ⟨_, rfl⟩
        obtain ⟨q, hq⟩ : ∃ q, q = r[k]'k2 := ⟨_, rfl⟩
        rw [← hp] at a0 a1 HT2 HNE
        rw [← hq] at d0 d1 HT2 HNE
        have hne := neq52 p q
        clear ha hd hp hq
        by_cases hpq : p = q
        · have hd0 : decide (p ≠ q) = false := by simp [hpq]
          rw [hd0] at hne
          have HT3 := hid_of (HT2.out hpq)
          clear hpq hd0 HT2 HNE
          generalize mk p.1 = P1 at *
          generalize mk p.2 = P2 at *
          generalize mk q.1 = Q1 at *
          generalize mk q.2 = Q2 at *
          go_wp2_with fail
          go_quiet (fail)
          go_wp2_with fail
          go_roundg g'
          case measure => omega
          case rel => exact ⟨k + 1, by omega, by omega, by rw [show ((k + 1 : Nat) : Int) = (k : Int) + 1 from by omega], HT3, hid_of (bdrew HB.out nq)⟩
        · have hd0 : decide (p ≠ q) = true := by simp [hpq]
          rw [hd0] at hne
          have HT3 := hid_of (HNE.out hpq)
          clear hpq hd0 HT2 HNE
          generalize mk p.1 = P1 at *
          generalize mk p.2 = P2 at *
          generalize mk q.1 = Q1 at *
          generalize mk q.2 = Q2 at *
          go_wp2_with fail
          go_quiet (fail)
          go_wp2_with fail
          go_ret
          exact ⟨ret_b (decide_eq_false HT3.out).symm, bdrew HB.out nq⟩
      · obtain rfl : k = N := by omega
        have gi : ¬ (k : Int) < (k : Int) := by omega
        have HE : Hid (l = r) := hid_of (by
          have := HT.out
          rw [List.take_of_length_le (by rw [← HN.out]; exact Nat.le_refl _), List.take_of_length_le (by rw [← HL.out, ← HN.out]; exact Nat.le_refl _)] at this
          exact this)
        go_wp2_with fail
        go_ret
        exact ⟨ret_b (decide_eq_true HE.out).symm, HB.out⟩
  · have HE : Hid (decide (l = r) = false) := hid_of (decide_eq_false (fun e => hlen (by rw [e])))
    have g1 : ((l.length : Int) != (r.length : Int)) = true := by simp; omega
    obtain ⟨N, hN⟩ : ∃ N, N = l.length := ⟨_, rfl⟩
    obtain ⟨M, hM⟩ : ∃ M, M = r.length := ⟨_, rfl⟩
    rw [← hN, ← hM] at g1
    rw [← hN, ← hM]
    clear hv hu hlen hN hM hl hr
    go_enter Tryd.func17, Tryd.ntmps17
    go_wp2_with fail
    go_ret
    exact ⟨ret_b HE.out.symm, Below.refl _ _⟩
end Go.Proofs.YtolihcgpnoacaaaDoor.Same
