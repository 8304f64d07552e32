/- slices.Equal over fields, entries and texts. -/
import Derived.Test.YtdcnkdkhanmklaaMem
import Derived.Test.YtdcnkdkhanmklaaShelf
namespace Go.Proofs.Ytdcnkdkhanmklaa.Equal
open Go.RowKit Go.Maps
open Go.Proofs.Ytdcnkdkhanmklaa.SetMath
open Go.Proofs.Ytdcnkdkhanmklaa.Base
open Go.Proofs.Ytdcnkdkhanmklaa.Neq
set_option linter.unusedVariables false

set_option maxHeartbeats 2000000 in
set_option maxRecDepth 100000 in
theorem eqF_call (v u : Value) (l r : FRow.LL) (w : World) (hv : FRow.FS w v l) (hu : FRow.FS w u r) (hl : l.length ≤ 140737488355328) (hr : r.length ≤ 140737488355328) : Calls Try.prog 42 #[v, u] w fun e w' => e = .returned (.bool (decide (l = r))) ∧ Below w.heap.size w w' := by
  obtain ⟨a, c, rfl, hc, hv⟩ := hv
  obtain ⟨d, f, rfl, hf, hu⟩ := hu
  by_cases hlen : l.length = r.length
  · have HV := hid_of hv
    have HU := hid_of hu
    have HL := hid_of hlen
    obtain ⟨N, hN⟩ : ∃ N, N = l.length := ⟨_, rfl⟩
    have HN := hid_of hN
    rw [← hlen, ← hN]
    have hlN : N ≤ 140737488355328 := by rw [hN]; exact hl
    clear hv hu hlen hN hl hr hc hf
    go_enter Try.func42, Try.ntmps42
    go_wp2_with fail
    go_loopg [13] N (fun g si wx => ∃ k : Nat, k ≤ N ∧ N ≤ k + g ∧ si = .int .i64 (k : Int) ∧ Hid (l.take k = r.take k) ∧ Hid (Below w.heap.size w wx))
    case atStart => exact ⟨0, by omega, by omega, rfl, hid_of rfl, hid_of (Below.refl _ _)⟩
    case round =>
      obtain ⟨k, hk, hg, rfl, HT, HB⟩ := hrel
      by_cases hlt : k < N
      · obtain ⟨g', rfl⟩ : ∃ g', gk = g' + 1 := ⟨gk - 1, by omega⟩
        have k1 : k < l.length := by rw [← HN.out]; exact hlt
        have k2 : k < r.length := by rw [← HL.out, ← HN.out]; exact hlt
        obtain ⟨ga, oa, rfl, ha⟩ : ∃ g o, a = some ⟨g, o, none⟩ ∧ FRow.eAt wr g o l := by
          rcases HV.out with h | ⟨g, o, e, h⟩
          · subst h; simp at k1
          · exact ⟨g, o, e, fun k hk => ⟨FRow.cell_on HB.out (h k hk).1, FRow.cell_on HB.out (h k hk).2⟩⟩
        obtain ⟨gd, od, rfl, hd⟩ : ∃ g o, d = some ⟨g, o, none⟩ ∧ FRow.eAt wr g o r := by
          rcases HU.out with h | ⟨g, o, e, h⟩
          · subst h; simp at k2
          · exact ⟨g, o, e, fun k hk => ⟨FRow.cell_on HB.out (h k hk).1, FRow.cell_on HB.out (h k hk).2⟩⟩
        obtain ⟨a0, a1⟩ := ha k k1
        obtain ⟨d0, d1⟩ := hd k k2
        have e2 : IntKind.i64.wrap ((k : Int) + 1) = (k : Int) + 1 := IntWalk.i64_in _ (by omega)
        have g2 : (k : Int) < (N : Int) := by omega
        have HT2 : Hid (l[k]'k1 = r[k]'k2 → l.take (k + 1) = r.take (k + 1)) := hid_of fun q => by
          rw [List.take_succ_eq_append_getElem k1, List.take_succ_eq_append_getElem k2, HT.out, q]
        have HNE : Hid (l[k]'k1 ≠ r[k]'k2 → l ≠ r) := hid_of fun q e => q (by subst e; rfl)
        obtain ⟨p, hp⟩ : ∃ p, p = l[k]'k1 := ⟨_, rfl⟩
        obtain ⟨q, hq⟩ : ∃ q, q = r[k]'k2 := ⟨_, rfl⟩
        rw [← hp] at a0 a1 HT2 HNE
        rw [← hq] at d0 d1 HT2 HNE
        have hne := neqF p q
        clear ha hd hp hq
        by_cases hpq : p = q
        · have hd0 : decide (p ≠ q) = false := by simp [hpq]
          rw [hd0] at hne
          have HT3 := hid_of (HT2.out hpq)
          clear hpq hd0 HT2 HNE
          generalize mk p.1 = P1 at *
          generalize mk p.2 = P2 at *
          generalize mk q.1 = Q1 at *
          generalize mk q.2 = Q2 at *
          go_wp2_with fail
          go_quiet (fail)
          go_wp2_with fail
          go_roundg g'
          case measure => omega
          case rel => exact ⟨k + 1, by omega, by omega, by rw [show ((k + 1 : Nat) : Int) = (k : Int) + 1 from by omega], HT3, hid_of (FRow.bdrew HB.out nq)⟩
        · have hd0 : decide (p ≠ q) = true := by simp [hpq]
          rw [hd0] at hne
          have HT3 := hid_of (HNE.out hpq)
          clear hpq hd0 HT2 HNE
          generalize mk p.1 = P1 at *
          generalize mk p.2 = P2 at *
          generalize mk q.1 = Q1 at *
          generalize mk q.2 = Q2 at *
          go_wp2_with fail
          go_quiet (fail)
          go_wp2_with fail
          go_ret
          exact ⟨ret_b (decide_eq_false HT3.out).symm, FRow.bdrew HB.out nq⟩
      · obtain rfl : k = N := by omega
        have gi : ¬ (k : Int) < (k : Int) := by omega
        have HE : Hid (l = r) := hid_of (by
          have := HT.out
          rw [List.take_of_length_le (by rw [← HN.out]; exact Nat.le_refl _), List.take_of_length_le (by rw [← HL.out, ← HN.out]; exact Nat.le_refl _)] at this
          exact this)
        go_wp2_with fail
        go_ret
        exact ⟨ret_b (decide_eq_true HE.out).symm, HB.out⟩
  · have HE : Hid (decide (l = r) = false) := hid_of (decide_eq_false (fun e => hlen (by rw [e])))
    have g1 : ((l.length : Int) != (r.length : Int)) = true := by simp; omega
    obtain ⟨N, hN⟩ : ∃ N, N = l.length := ⟨_, rfl⟩
    obtain ⟨M, hM⟩ : ∃ M, M = r.length := ⟨_, rfl⟩
    rw [← hN, ← hM] at g1
    rw [← hN, ← hM]
    clear hv hu hlen hN hM hl hr hc hf
    go_enter Try.func42, Try.ntmps42
    go_wp2_with fail
    go_ret
    exact ⟨ret_b HE.out.symm, Below.refl _ _⟩

set_option maxHeartbeats 2000000 in
set_option maxRecDepth 100000 in
theorem eqE_call (v u : Value) (l r : ERow.LL) (w : World) (hv : ERow.FS w v l) (hu : ERow.FS w u r) (hl : l.length ≤ 140737488355328) (hr : r.length ≤ 140737488355328) : Calls Try.prog 43 #[v, u] w fun e w' => e = .returned (.bool (decide (l = r))) ∧ Below w.heap.size w w' := by
  obtain ⟨a, c, rfl, hc, hv⟩ := hv
  obtain ⟨d, f, rfl, hf, hu⟩ := hu
  by_cases hlen : l.length = r.length
  · have HV := hid_of hv
    have HU := hid_of hu
    have HL := hid_of hlen
    obtain ⟨N, hN⟩ : ∃ N, N = l.length := ⟨_, rfl⟩
    have HN := hid_of hN
    rw [← hlen, ← hN]
    have hlN : N ≤ 140737488355328 := by rw [hN]; exact hl
    clear hv hu hlen hN hl hr hc hf
    go_enter Try.func43, Try.ntmps43
    go_wp2_with fail
    go_loopg [13] N (fun g si wx => ∃ k : Nat, k ≤ N ∧ N ≤ k + g ∧ si = .int .i64 (k : Int) ∧ Hid (l.take k = r.take k) ∧ Hid (Below w.heap.size w wx))
    case atStart => exact ⟨0, by omega, by omega, rfl, hid_of rfl, hid_of (Below.refl _ _)⟩
    case round =>
      obtain ⟨k, hk, hg, rfl, HT, HB⟩ := hrel
      by_cases hlt : k < N
      · obtain ⟨g', rfl⟩ : ∃ g', gk = g' + 1 := ⟨gk - 1, by omega⟩
        have k1 : k < l.length := by rw [← HN.out]; exact hlt
        have k2 : k < r.length := by rw [← HL.out, ← HN.out]; exact hlt
        obtain ⟨ga, oa, rfl, ha⟩ : ∃ g o, a = some ⟨g, o, none⟩ ∧ ERow.eAt wr g o l := by
          rcases HV.out with h | ⟨g, o, e, h⟩
          · subst h; simp at k1
          · exact ⟨g, o, e, fun k hk => ⟨ERow.cell_on HB.out (h k hk).1, ERow.cell_on HB.out (h k hk).2⟩⟩
        obtain ⟨gd, od, rfl, hd⟩ : ∃ g o, d = some ⟨g, o, none⟩ ∧ ERow.eAt wr g o r := by
          rcases HU.out with h | ⟨g, o, e, h⟩
          · subst h; simp at k2
          · exact ⟨g, o, e, fun k hk => ⟨ERow.cell_on HB.out (h k hk).1, ERow.cell_on HB.out (h k hk).2⟩⟩
        obtain ⟨a0, a1⟩ := ha k k1
        obtain ⟨d0, d1⟩ := hd k k2
        have e2 : IntKind.i64.wrap ((k : Int) + 1) = (k : Int) + 1 := IntWalk.i64_in _ (by omega)
        have g2 : (k : Int) < (N : Int) := by omega
        have HT2 : Hid (l[k]'k1 = r[k]'k2 → l.take (k + 1) = r.take (k + 1)) := hid_of fun q => by
          rw [List.take_succ_eq_append_getElem k1, List.take_succ_eq_append_getElem k2, HT.out, q]
        have HNE : Hid (l[k]'k1 ≠ r[k]'k2 → l ≠ r) := hid_of fun q e => q (by subst e; rfl)
        obtain ⟨p, hp⟩ : ∃ p, p = l[k]'k1 := ⟨_, rfl⟩
        obtain ⟨q, hq⟩ : ∃ q, q = r[k]'k2 := ⟨_, rfl⟩
        rw [← hp] at a0 a1 HT2 HNE
        rw [← hq] at d0 d1 HT2 HNE
        have hne := neqE p q
        clear ha hd hp hq
        by_cases hpq : p = q
        · have hd0 : decide (p ≠ q) = false := by simp [hpq]
          rw [hd0] at hne
          have HT3 := hid_of (HT2.out hpq)
          clear hpq hd0 HT2 HNE
          generalize mk p.1 = P1 at *
          generalize p.2 = P2 at *
          generalize mk q.1 = Q1 at *
          generalize q.2 = Q2 at *
          go_wp2_with fail
          go_quiet (fail)
          go_wp2_with fail
          go_roundg g'
          case measure => omega
          case rel => exact ⟨k + 1, by omega, by omega, by rw [show ((k + 1 : Nat) : Int) = (k : Int) + 1 from by omega], HT3, hid_of (ERow.bdrew HB.out nq)⟩
        · have hd0 : decide (p ≠ q) = true := by simp [hpq]
          rw [hd0] at hne
          have HT3 := hid_of (HNE.out hpq)
          clear hpq hd0 HT2 HNE
          generalize mk p.1 = P1 at *
          generalize p.2 = P2 at *
          generalize mk q.1 = Q1 at *
          generalize q.2 = Q2 at *
          go_wp2_with fail
          go_quiet (fail)
          go_wp2_with fail
          go_ret
          exact ⟨ret_b (decide_eq_false HT3.out).symm, ERow.bdrew HB.out nq⟩
      · obtain rfl : k = N := by omega
        have gi : ¬ (k : Int) < (k : Int) := by omega
        have HE : Hid (l = r) := hid_of (by
          have := HT.out
          rw [List.take_of_length_le (by rw [← HN.out]; exact Nat.le_refl _), List.take_of_length_le (by rw [← HL.out, ← HN.out]; exact Nat.le_refl _)] at this
          exact this)
        go_wp2_with fail
        go_ret
        exact ⟨ret_b (decide_eq_true HE.out).symm, HB.out⟩
  · have HE : Hid (decide (l = r) = false) := hid_of (decide_eq_false (fun e => hlen (by rw [e])))
    have g1 : ((l.length : Int) != (r.length : Int)) = true := by simp; omega
    obtain ⟨N, hN⟩ : ∃ N, N = l.length := ⟨_, rfl⟩
    obtain ⟨M, hM⟩ : ∃ M, M = r.length := ⟨_, rfl⟩
    rw [← hN, ← hM] at g1
    rw [← hN, ← hM]
    clear hv hu hlen hN hM hl hr hc hf
    go_enter Try.func43, Try.ntmps43
    go_wp2_with fail
    go_ret
    exact ⟨ret_b HE.out.symm, Below.refl _ _⟩

theorem eqS_call {G G' : Nat → Prop} {w : World} {u v : Value} {l r : List El} (h : SL G w u l) (h' : SL G' w v r) (hl : l.length ≤ 140737488355328) (hr : r.length ≤ 140737488355328) :
    Calls Try.prog 41 #[u, v] w fun e w' => e = .returned (.bool (decide (l = r))) ∧ Below w.heap.size w w' := by
  obtain ⟨a, c, rfl, hc, h1⟩ := h
  obtain ⟨a', c', rfl, hc', h2⟩ := h'
  by_cases hlen : l.length = r.length
  · by_cases h0 : l = []
    · subst h0
      obtain rfl : r = [] := List.length_eq_zero_iff.1 hlen.symm
      refine (Try.slices_Equal_string_empty a a' c 0 c' w (by decide)).mono ?_
      rintro e w' ⟨rfl, rfl⟩
      exact ⟨by simp, Below.refl _ _⟩
    · have hp : 0 < l.length := List.length_pos_iff.2 h0
      obtain ⟨g1, o1, rfl, _, q1⟩ := Rd.get h1 hp
      obtain ⟨g2, o2, rfl, _, q2⟩ := Rd.get h2 (by omega)
      refine (Try.slices_Equal_string g1 o1 l.length c g2 o2 r.length c' (l.map mk) (r.map mk) w (by simp) (by simp) (by omega) (by omega) (fun j hj => ?_) (fun j hj => ?_)).mono ?_
      · have hj' : j < l.length := by simpa using hj
        rw [q1 j l[j] (List.getElem?_eq_getElem hj')]
        simp [List.getD, hj']
      · have hj' : j < r.length := by simpa using hj
        rw [q2 j r[j] (List.getElem?_eq_getElem hj')]
        simp [List.getD, hj']
      · rintro e w' ⟨rfl, q, rfl⟩
        refine ⟨ret_b ?_, ⟨rfl, rfl, rfl, Nat.le_refl _, fun _ _ => rfl⟩⟩
        rw [List.take_of_length_le (by simp), List.take_of_length_le (by simp)]
        have : (l.map mk = r.map mk) ↔ l = r := ⟨fun e => by
          have := congrArg (List.map bs) e
          rwa [List.map_map, List.map_map, show (bs ∘ mk) = id from rfl, List.map_id, List.map_id] at this, fun e => by rw [e]⟩
        simp [this]
  · refine (Try.slices_Equal_string_lens a a' l.length c r.length c' w hlen).mono ?_
    rintro e w' ⟨rfl, rfl⟩
    exact ⟨ret_b (decide_eq_false fun e => hlen (by rw [e])).symm, Below.refl _ _⟩
end Go.Proofs.Ytdcnkdkhanmklaa.Equal
