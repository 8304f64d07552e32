/- Small calls that only read: Valid, the document's Valid and Has, Same, cmp.Compare. -/
import Derived.Test.YtdcnkdkhanmklabBase
namespace Go.Proofs.Ytdcnkdkhanmklab.Small
open Go.RowKit Go.Sort
open Go.Proofs.Ytdcnkdkhanmklab.SetMath
open Go.Proofs.Ytdcnkdkhanmklab.Base
set_option linter.unusedVariables false
set_option linter.unusedSimpArgs false
theorem adj_ris : ∀ {l : List Bs}, (∀ k (h : k + 1 < l.length), l[k] < l[k + 1]) → Ris l
  | [], _ => List.Pairwise.nil
  | [x], _ => List.pairwise_singleton _ _
  | x :: y :: r, h => by
    have ih : Ris (y :: r) := adj_ris (l := y :: r) fun k hk => h (k + 1) (by simpa using hk)
    have h0 : x < y := h 0 (by simp)
    refine List.pairwise_cons.2 ⟨fun z hz => ?_, ih⟩
    rcases List.mem_cons.1 hz with rfl | hz
    · exact h0
    · exact List.lt_trans h0 (ih.head z hz)
set_option maxHeartbeats 1000000 in
set_option maxRecDepth 100000 in
theorem valid_call {G : Nat → Prop} {w : World} {v : Value} {l : List El} (h : SL G w v l) (hb : l.length ≤ 140737488355328) :
    Calls Try.prog 69 #[v] w fun e w' => e = .returned (.bool (decide (Ris l))) ∧ ∃ m, w' = w.drewN m := by
  obtain ⟨a, c, rfl, hc, hr⟩ := h
  have H1 := hid_of hr
  obtain ⟨L, HL⟩ : ∃ L, Hid (L = l.length) := ⟨_, hid_of rfl⟩
  rw [← HL.out] at hb ⊢
  clear hr hc
  go_enter Try.func69, Try.ntmps69
  go_wp2_with fail
  go_loopg [3] L (fun g s3 wx => ∃ j : Nat, (j + 1 ≤ L ∨ j = 0) ∧ L ≤ j + g ∧ s3 = .int .i64 ((j : Int) + 1) ∧ Hid (∀ k (h : k + 1 < l.length), k < j → l[k] < l[k + 1]) ∧ Hid (∃ m, wx = w.drewN m))
  case atStart => exact ⟨0, by omega, by omega, rfl, fun k _ hk => by omega, 0, rfl⟩
  case round =>
    obtain ⟨j, hj, hg, rfl, HA, R⟩ := hrel
    by_cases hlt : j + 1 < L
    · obtain ⟨g', rfl⟩ : ∃ g', gk = g' + 1 := ⟨gk - 1, by omega⟩
      have hjl : j + 1 < l.length := by rw [← HL.out]; exact hlt
      obtain ⟨g1, o1, rfl, _, q1⟩ := Rd.get H1.out (by omega)
      have c1 : wr.cell? ⟨g1, o1 + j, none⟩ = some (.string (mk l[j])) := by obtain ⟨m, rfl⟩ := R.out; exact q1 j _ (List.getElem?_eq_getElem (by omega))
      have c2 : wr.cell? ⟨g1, o1 + (j + 1), none⟩ = some (.string (mk l[j + 1])) := by obtain ⟨m, rfl⟩ := R.out; exact q1 (j + 1) _ (List.getElem?_eq_getElem hjl)
      have HN : Hid (l[j] < l[j + 1] → ∀ k (h : k + 1 < l.length), k < j + 1 → l[k] < l[k + 1]) := hid_of fun q k hk hk2 => by
        by_cases e : k = j
        · subst e; exact q
        · exact HA.out k hk (by omega)
      have HF : Hid (¬ l[j] < l[j + 1] → decide (Ris l) = false) := hid_of fun q => decide_eq_false fun r => q (ris_at r (by omega) hjl)
      have hlx := str_lt l[j] l[j + 1]
      generalize l[j] = x at *
      generalize l[j + 1] = y at *
      have w1 : IntKind.i64.wrap ((j : Int) + 1) = (j : Int) + 1 := IntWalk.i64_in _ (by omega)
      have w2 : IntKind.i64.wrap ((j : Int) + 1 + 1) = (j : Int) + 1 + 1 := IntWalk.i64_in _ (by omega)
      have w3 : IntKind.i64.wrap ((j : Int) + 1 - 1) = (j : Int) := by rw [show (j : Int) + 1 - 1 = (j : Int) by omega]; exact IntWalk.i64_in _ (by omega)
      have d1 : (j : Int) + 1 < (L : Int) := by omega
      have d2 : j < L := by omega
      clear q1
      by_cases hxy : x < y
      · rw [decide_eq_true hxy] at hlx
        have HN2 := hid_of (HN.out hxy)
        clear hxy HN HF
        generalize mk x = X at *
        generalize mk y = Y at *
        go_wp2_with fail
        go_quiet (fail)
        go_wp2_with fail
        go_roundg g'
        case measure => omega
        case rel => exact ⟨j + 1, by omega, by omega, by simp, HN2, by obtain ⟨m, e⟩ := R.out; exact ⟨m + nq, by rw [e, World.drewN_drewN]⟩⟩
      · rw [decide_eq_false hxy] at hlx
        have HF2 := hid_of (HF.out hxy)
        clear hxy HN HF
        generalize mk x = X at *
        generalize mk y = Y at *
        go_wp2_with fail
        go_quiet (fail)
        go_wp2_with fail
        go_ret
        exact ⟨ret_b HF2.out.symm, by obtain ⟨m, e⟩ := R.out; exact ⟨m + nq, by rw [e, World.drewN_drewN]⟩⟩
    · have d1 : ¬ (j : Int) + 1 < (L : Int) := by omega
      have HT : Hid (decide (Ris l) = true) := hid_of (decide_eq_true (adj_ris fun k hk => HA.out k hk (by have := HL.out; omega)))
      go_wp2_with fail
      go_ret
      exact ⟨ret_b HT.out.symm, R.out⟩
set_option maxHeartbeats 1000000 in
set_option maxRecDepth 100000 in
theorem same_call {G G' : Nat → Prop} {w : World} {u v : Value} {l r : List El} (h : SL G w u l) (h' : SL G' w v r) (hl : l.length ≤ 140737488355328) (hr : r.length ≤ 140737488355328) :
    Calls Try.prog 16 #[u, v] w fun e w' => e = .returned (.bool (decide (l = r))) ∧ ∃ m, w' = w.drewN m := by
  obtain ⟨a, c, rfl, hc, h1⟩ := h
  obtain ⟨a', c', rfl, hc', h2⟩ := h'
  by_cases hlen : l.length = r.length
  · have H1 := hid_of h1
    have H2 := hid_of h2
    have HE := hid_of hlen
    obtain ⟨L, HL⟩ : ∃ L, Hid (L = l.length) := ⟨_, hid_of rfl⟩
    rw [← hlen, ← HL.out]
    rw [← HL.out] at hl
    clear h1 h2 hc hc' hr hlen
    go_enter Try.func16, Try.ntmps16
    go_wp2_with fail
    go_loopg [5] L (fun g s5 wx => ∃ i : Nat, i ≤ L ∧ L ≤ i + g ∧ s5 = .int .i64 (i : Int) ∧ Hid (l.take i = r.take i) ∧ Hid (∃ m, wx = w.drewN m))
    case atStart => exact ⟨0, by omega, by omega, rfl, hid_of (by simp), 0, rfl⟩
    case round =>
      obtain ⟨i, hi, hg, rfl, HA, R⟩ := hrel
      by_cases hlt : i < L
      · obtain ⟨g', rfl⟩ : ∃ g', gk = g' + 1 := ⟨gk - 1, by omega⟩
        have k1 : i < l.length := by rw [← HL.out]; exact hlt
        have k2 : i < r.length := by rw [← HE.out]; exact k1
        obtain ⟨g1, o1, rfl, _, q1⟩ := Rd.get H1.out (by omega)
        obtain ⟨g2, o2, rfl, _, q2⟩ := Rd.get H2.out (by omega)
        have c1 : wr.cell? ⟨g1, o1 + i, none⟩ = some (.string (mk l[i])) := by obtain ⟨m, rfl⟩ := R.out; exact q1 i _ (List.getElem?_eq_getElem k1)
        have c2 : wr.cell? ⟨g2, o2 + i, none⟩ = some (.string (mk r[i])) := by obtain ⟨m, rfl⟩ := R.out; exact q2 i _ (List.getElem?_eq_getElem k2)
        have hlx := str_eq l[i] r[i]
        have HN : Hid (l[i] = r[i] → l.take (i + 1) = r.take (i + 1)) := hid_of fun q => by
          rw [List.take_succ_eq_append_getElem k1, List.take_succ_eq_append_getElem k2, HA.out, q]
        have HF : Hid (l[i] ≠ r[i] → decide (l = r) = false) := hid_of fun q => decide_eq_false fun e => q (by subst e; rfl)
        generalize l[i] = x at *
        generalize r[i] = y at *
        have w2 : IntKind.i64.wrap ((i : Int) + 1) = (i : Int) + 1 := IntWalk.i64_in _ (by omega)
        clear q1 q2
        by_cases hxy : x = y
        · rw [decide_eq_true hxy] at hlx
          have HN2 := hid_of (HN.out hxy)
          clear hxy HN HF
          generalize mk x = X at *
          generalize mk y = Y at *
          go_wp2_with fail
          go_quiet (fail)
          go_wp2_with fail
          go_roundg g'
          case measure => omega
          case rel => exact ⟨i + 1, by omega, by omega, by simp, HN2, by obtain ⟨m, e⟩ := R.out; exact ⟨m + nq, by rw [e, World.drewN_drewN]⟩⟩
        · rw [decide_eq_false hxy] at hlx
          have HF2 := hid_of (HF.out hxy)
          clear hxy HN HF
          generalize mk x = X at *
          generalize mk y = Y at *
          go_wp2_with fail
          go_quiet (fail)
          go_wp2_with fail
          go_ret
          exact ⟨ret_b HF2.out.symm, by obtain ⟨m, e⟩ := R.out; exact ⟨m + nq, by rw [e, World.drewN_drewN]⟩⟩
      · have HT : Hid (decide (l = r) = true) := hid_of (decide_eq_true (by
          have := HA.out
          rwa [List.take_of_length_le (by have := HL.out; omega), List.take_of_length_le (by have := HL.out; have := HE.out; omega)] at this))
        go_wp2_with fail
        go_ret
        exact ⟨ret_b HT.out.symm, R.out⟩
  · have HF : Hid (decide (l = r) = false) := hid_of (decide_eq_false fun e => hlen (by rw [e]))
    have g1 : ((l.length : Int) != (r.length : Int)) = true := by simp; omega
    generalize l.length = N at *
    generalize r.length = M at *
    clear h1 h2 hlen hl hr hc hc'
    go_enter Try.func16, Try.ntmps16
    go_wp2_with fail
    go_ret
    exact ⟨ret_b HF.out.symm, 0, rfl⟩
theorem same_true {G G' : Nat → Prop} {w : World} {u v : Value} {l r : List El} (h : SL G w u l) (h' : SL G' w v r) (e : l = r) (hl : l.length ≤ 140737488355328) :
    Calls Try.prog 16 #[u, v] w fun e w' => e = .returned (.bool true) ∧ ∃ m, w' = w.drewN m := by
  have := same_call h h' hl (by rw [← e]; exact hl)
  rwa [decide_eq_true e] at this
def ord (x y : Bs) : Int := if x < y then -1 else if y < x then 1 else 0
set_option maxRecDepth 100000 in
theorem nan_call (x : ByteArray) (w : World) : Calls Try.prog 84 #[.string x] w fun e w' => e = .returned (.bool false) ∧ w' = w := by
  go_enter Try.func84, Try.ntmps84
  go_wp2
  go_ret
  exact ⟨by simp, rfl⟩
set_option maxRecDepth 100000 in
theorem cmp_call (x y : Bs) (w : World) : Calls Try.prog 80 #[V x, V y] w fun e w' => e = .returned (.int .i64 (ord x y)) ∧ w' = w := by
  have h1 := str_lt x y
  have h2 := str_eq x y
  have N1 := hid_of (nan_call (mk x) w)
  have N2 := hid_of (nan_call (mk y) w)
  show Calls Try.prog 80 #[.string (mk x), .string (mk y)] w _
  unfold ord
  rcases lt_tot x y with q | q | q
  · rw [if_pos q]
    rw [decide_eq_true q] at h1
    rw [decide_eq_false (lt_ne q)] at h2
    clear q
    generalize mk x = X at *
    generalize mk y = Y at *
    go_enter Try.func80, Try.ntmps80
    go_wp2_with fail
    refine N1.out.mono ?_
    rintro e w1 ⟨rfl, rfl⟩
    go_wp2_with fail
    refine N2.out.mono ?_
    rintro e w1 ⟨rfl, rfl⟩
    go_wp2_with fail
    go_ret
    exact ⟨rfl, rfl⟩
  · rw [q, if_neg (List.lt_irrefl y), if_neg (List.lt_irrefl y)]
    rw [q, decide_eq_false (List.lt_irrefl y)] at h1
    rw [decide_eq_true q, q] at h2
    rw [q] at N1
    clear q
    generalize mk y = Y at *
    go_enter Try.func80, Try.ntmps80
    go_wp2_with fail
    refine N1.out.mono ?_
    rintro e w1 ⟨rfl, rfl⟩
    go_wp2_with fail
    refine N2.out.mono ?_
    rintro e w1 ⟨rfl, rfl⟩
    go_wp2_with fail
    go_ret
    exact ⟨rfl, rfl⟩
  · rw [if_neg (lt_not q), if_pos q]
    rw [decide_eq_false (lt_not q)] at h1
    rw [decide_eq_false (lt_ne q).symm] at h2
    clear q
    generalize mk x = X at *
    generalize mk y = Y at *
    go_enter Try.func80, Try.ntmps80
    go_wp2_with fail
    refine N1.out.mono ?_
    rintro e w1 ⟨rfl, rfl⟩
    go_wp2_with fail
    refine N2.out.mono ?_
    rintro e w1 ⟨rfl, rfl⟩
    go_wp2_with fail
    go_ret
    exact ⟨rfl, rfl⟩
end Go.Proofs.Ytdcnkdkhanmklab.Small
