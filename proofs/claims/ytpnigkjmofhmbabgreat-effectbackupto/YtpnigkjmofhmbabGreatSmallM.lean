/- Small calls that only read: Valid, the document's Valid and Has, Same, cmp.Compare. slices.Equal over fields, entries and texts. -/
import Derived.Test.YtpnigkjmofhmbabGreatBaseM
import Derived.Test.YtpnigkjmofhmbabGreatERowM
import Derived.Test.YtpnigkjmofhmbabGreatShelf
section
namespace Go.Proofs.YtpnigkjmofhmbabGreat.Small
open Go.RowKit Go.Sort
open Go.Proofs.YtpnigkjmofhmbabGreat.SetMath
open Go.Proofs.YtpnigkjmofhmbabGreat.Base
set_option linter.unusedVariables false
set_option linter.unusedSimpArgs false
theorem adj_ris : ∀ {l : List Bs}, (∀ k (h : k + 1 < l.length), l[k] < l[k + 1]) → Ris l
  | [], _ => List.Pairwise.nil
  | [x], _ => List.pairwise_singleton _ _
  | x :: y :: r, h => by
    have ih : Ris (y :: r) := adj_ris (l := y :: r) fun k hk => h (k + 1) (by simpa using hk)
    have h0 : x < y := h 0 (by simp)
    refine List.pairwise_cons.2 ⟨fun z hz => ?_, ih⟩
    rcases List.mem_cons.1 hz with rfl | hz
    · exact h0
    · exact List.lt_trans h0 (ih.head z hz)
set_option maxHeartbeats 1000000 in
set_option maxRecDepth 100000 in
theorem valid_call {G : Nat → Prop} {w : World} {v : Value} {l : List El} (h : SL G w v l) (hb : l.length ≤ 140737488355328) :
    Calls Tryz.prog 185 #[v] w fun e w' => e = .returned (.bool (decide (Ris l))) ∧ ∃ m, w' = w.drewN m := by
  obtain ⟨a, c, rfl, hc, hr⟩ := h
  have H1 := hid_of hr
  obtain ⟨L, HL⟩ : ∃ L, Hid (L = l.length) := ⟨_, hid_of rfl⟩
  rw [← HL.out] at hb ⊢
  clear hr hc
  go_enter Tryz.func185, Tryz.ntmps185
  go_wp2_with fail
  go_loopg [3] L (fun g s3 wx => ∃ j : Nat, (j + 1 ≤ L ∨ j = 0) ∧ L ≤ j + g ∧ s3 = .int .i64 ((j : Int) + 1) ∧ Hid (∀ k (h : k + 1 < l.length), k < j → l[k] < l[k + 1]) ∧ Hid (∃ m, wx = w.drewN m))
  case atStart => exact ⟨0, by omega, by omega, rfl, fun k _ hk => by omega, 0, rfl⟩
  case round =>
    obtain ⟨j, hj, hg, rfl, HA, R⟩ := hrel
    by_cases hlt : j + 1 < L
    · obtain ⟨g', rfl⟩ : ∃ g', gk = g' + 1 := ⟨gk - 1, by omega⟩
      have hjl : j + 1 < l.length := by rw [← HL.out]; exact hlt
      obtain ⟨g1, o1, rfl, _, q1⟩ := Rd.get H1.out (by omega)
      have c1 : wr.cell? ⟨g1, o1 + j, none⟩ = some (.string (mk l[j])) := by obtain ⟨m, rfl⟩ := R.out; exact q1 j _ (List.getElem?_eq_getElem (by omega))
      have c2 : wr.cell? ⟨g1, o1 + (j + 1), none⟩ = some (.string (mk l[j + 1])) := by obtain ⟨m, rfl⟩ := R.out; exact q1 (j + 1) _ (List.getElem?_eq_getElem hjl)
      have HN : Hid (l[j] < l[j + 1] → ∀ k (h : k + 1 < l.length), k < j + 1 → l[k] < l[k + 1]) := hid_of fun q k hk hk2 => by
        by_cases e : k = j
        · subst e; exact q
        · exact HA.out k hk (by omega)
      have HF : Hid (¬ l[j] < l[j + 1] → decide (Ris l) = false) := hid_of fun q => decide_eq_false fun r => q (ris_at r (by omega) hjl)
      have hlx := str_lt l[j] l[j + 1]
      generalize l[j] = x at *
      generalize l[j + 1] = y at *
      have w1 : IntKind.i64.wrap ((j : Int) + 1) = (j : Int) + 1 := IntWalk.i64_in _ (by omega)
      have w2 : IntKind.i64.wrap ((j : Int) + 1 + 1) = (j : Int) + 1 + 1 := IntWalk.i64_in _ (by omega)
      have w3 : IntKind.i64.wrap ((j : Int) + 1 - 1) = (j : Int) := by rw [show (j : Int) + 1 - 1 = (j : Int) by omega]; exact IntWalk.i64_in _ (by omega)
      have d1 : (j : Int) + 1 < (L : Int) := by omega
      have d2 : j < L := by omega
      clear q1
      by_cases hxy : x < y
      · rw [decide_eq_true hxy] at hlx
        have HN2 := hid_of (HN.out hxy)
        clear hxy HN HF
        generalize mk x = X at *
        generalize mk y = Y at *
        go_wp2_with fail
        go_quiet (fail)
        go_wp2_with fail
        go_roundg g'
        case measure => omega
        case rel => exact ⟨j + 1, by omega, by omega, by simp, HN2, by obtain ⟨m, e⟩ := R.out; exact ⟨m + nq, by rw [e, World.drewN_drewN]⟩⟩
      · rw [decide_eq_false hxy] at hlx
        have HF2 := hid_of (HF.out hxy)
        clear hxy HN HF
        generalize mk x = X at *
        generalize mk y = Y at *
        go_wp2_with fail
        go_quiet (fail)
        go_wp2_with fail
        go_ret
        exact ⟨ret_b HF2.out.symm, by obtain ⟨m, e⟩ := R.out; exact ⟨m + nq, by rw [e, World.drewN_drewN]⟩⟩
    · have d1 : ¬ (j : Int) + 1 < (L : Int) := by omega
      have HT : Hid (decide (Ris l) = true) := hid_of (decide_eq_true (adj_ris fun k hk => HA.out k hk (by have := HL.out; omega)))
      go_wp2_with fail
      go_ret
      exact ⟨ret_b HT.out.symm, R.out⟩
set_option maxHeartbeats 1000000 in
set_option maxRecDepth 100000 in
theorem rvalid_call {G : Nat → Prop} {w : World} {v : Value} {l : List El} (h : SL G w v l) (hb : l.length ≤ 140737488355328) :
    Calls Tryz.prog 89 #[v] w fun e w' => e = .returned (.bool (decide (Ris l))) ∧ ∃ m, w' = w.drewN m := by
  obtain ⟨a, c, rfl, hc, hr⟩ := h
  have H1 := hid_of hr
  obtain ⟨L, HL⟩ : ∃ L, Hid (L = l.length) := ⟨_, hid_of rfl⟩
  rw [← HL.out] at hb ⊢
  clear hr hc
  go_enter Tryz.func89, Tryz.ntmps89
  go_wp2_with fail
  go_loopg [3] L (fun g s3 wx => ∃ j : Nat, (j + 1 ≤ L ∨ j = 0) ∧ L ≤ j + g ∧ s3 = .int .i64 ((j : Int) + 1) ∧ Hid (∀ k (h : k + 1 < l.length), k < j → l[k] < l[k + 1]) ∧ Hid (∃ m, wx = w.drewN m))
  case atStart => exact ⟨0, by omega, by omega, rfl, fun k _ hk => by omega, 0, rfl⟩
  case round =>
    obtain ⟨j, hj, hg, rfl, HA, R⟩ := hrel
    by_cases hlt : j + 1 < L
    · obtain ⟨g', rfl⟩ : ∃ g', gk = g' + 1 := ⟨gk - 1, by omega⟩
      have hjl : j + 1 < l.length := by rw [← HL.out]; exact hlt
      obtain ⟨g1, o1, rfl, _, q1⟩ := Rd.get H1.out (by omega)
      have c1 : wr.cell? ⟨g1, o1 + j, none⟩ = some (.string (mk l[j])) := by obtain ⟨m, rfl⟩ := R.out; exact q1 j _ (List.getElem?_eq_getElem (by omega))
      have c2 : wr.cell? ⟨g1, o1 + (j + 1), none⟩ = some (.string (mk l[j + 1])) := by obtain ⟨m, rfl⟩ := R.out; exact q1 (j + 1) _ (List.getElem?_eq_getElem hjl)
      have HN : Hid (l[j] < l[j + 1] → ∀ k (h : k + 1 < l.length), k < j + 1 → l[k] < l[k + 1]) := hid_of fun q k hk hk2 => by
        by_cases e : k = j
        · subst e; exact q
        · exact HA.out k hk (by omega)
      have HF : Hid (¬ l[j] < l[j + 1] → decide (Ris l) = false) := hid_of fun q => decide_eq_false fun r => q (ris_at r (by omega) hjl)
      have hlx := str_lt l[j] l[j + 1]
      generalize l[j] = x at *
      generalize l[j + 1] = y at *
      have w1 : IntKind.i64.wrap ((j : Int) + 1) = (j : Int) + 1 := IntWalk.i64_in _ (by omega)
      have w2 : IntKind.i64.wrap ((j : Int) + 1 + 1) = (j : Int) + 1 + 1 := IntWalk.i64_in _ (by omega)
      have w3 : IntKind.i64.wrap ((j : Int) + 1 - 1) = (j : Int) := by rw [show (j : Int) + 1 - 1 = (j : Int) by omega]; exact IntWalk.i64_in _ (by omega)
      have d1 : (j : Int) + 1 < (L : Int) := by omega
      have d2 : j < L := by omega
      clear q1
      by_cases hxy : x < y
      · rw [decide_eq_true hxy] at hlx
        have HN2 := hid_of (HN.out hxy)
        clear hxy HN HF
        generalize mk x = X at *
        generalize mk y = Y at *
        go_wp2_with fail
        go_quiet (fail)
        go_wp2_with fail
        go_roundg g'
        case measure => omega
        case rel => exact ⟨j + 1, by omega, by omega, by simp, HN2, by obtain ⟨m, e⟩ := R.out; exact ⟨m + nq, by rw [e, World.drewN_drewN]⟩⟩
      · rw [decide_eq_false hxy] at hlx
        have HF2 := hid_of (HF.out hxy)
        clear hxy HN HF
        generalize mk x = X at *
        generalize mk y = Y at *
        go_wp2_with fail
        go_quiet (fail)
        go_wp2_with fail
        go_ret
        exact ⟨ret_b HF2.out.symm, by obtain ⟨m, e⟩ := R.out; exact ⟨m + nq, by rw [e, World.drewN_drewN]⟩⟩
    · have d1 : ¬ (j : Int) + 1 < (L : Int) := by omega
      have HT : Hid (decide (Ris l) = true) := hid_of (decide_eq_true (adj_ris fun k hk => HA.out k hk (by have := HL.out; omega)))
      go_wp2_with fail
      go_ret
      exact ⟨ret_b HT.out.symm, R.out⟩
set_option maxHeartbeats 1000000 in
set_option maxRecDepth 100000 in
theorem same_call {G G' : Nat → Prop} {w : World} {u v : Value} {l r : List El} (h : SL G w u l) (h' : SL G' w v r) (hl : l.length ≤ 140737488355328) (hr : r.length ≤ 140737488355328) :
    Calls Tryz.prog 57 #[u, v] w fun e w' => e = .returned (.bool (decide (l = r))) ∧ ∃ m, w' = w.drewN m := by
  obtain ⟨a, c, rfl, hc, h1⟩ := h
  obtain ⟨a', c', rfl, hc', h2⟩ := h'
  by_cases hlen : l.length = r.length
  · have H1 := hid_of h1
    have H2 := hid_of h2
    have HE := hid_of hlen
    obtain ⟨L, HL⟩ : ∃ L, Hid (L = l.length) := ⟨_, hid_of rfl⟩
    rw [← hlen, ← HL.out]
    rw [← HL.out] at hl
    clear h1 h2 hc hc' hr hlen
    go_enter Tryz.func57, Tryz.ntmps57
    go_wp2_with fail
    go_loopg [5] L (fun g s5 wx => ∃ i : Nat, i ≤ L ∧ L ≤ i + g ∧ s5 = .int .i64 (i : Int) ∧ Hid (l.take i = r.take i) ∧ Hid (∃ m, wx = w.drewN m))
    case atStart => exact ⟨0, by omega, by omega, rfl, hid_of (by simp), 0, rfl⟩
    case round =>
      obtain ⟨i, hi, hg, rfl, HA, R⟩ := hrel
      by_cases hlt : i < L
      · obtain ⟨g', rfl⟩ : ∃ g', gk = g' + 1 := ⟨gk - 1, by omega⟩
        have k1 : i < l.length := by rw [← HL.out]; exact hlt
        have k2 : i < r.length := by rw [← HE.out]; exact k1
        obtain ⟨g1, o1, rfl, _, q1⟩ := Rd.get H1.out (by omega)
        obtain ⟨g2, o2, rfl, _, q2⟩ := Rd.get H2.out (by omega)
        have c1 : wr.cell? ⟨g1, o1 + i, none⟩ = some (.string (mk l[i])) := by obtain ⟨m, rfl⟩ := R.out; exact q1 i _ (List.getElem?_eq_getElem k1)
        have c2 : wr.cell? ⟨g2, o2 + i, none⟩ = some (.string (mk r[i])) := by obtain ⟨m, rfl⟩ := R.out; exact q2 i _ (List.getElem?_eq_getElem k2)
        have hlx := str_eq l[i] r[i]
        have HN : Hid (l[i] = r[i] → l.take (i + 1) = r.take (i + 1)) := hid_of fun q => by
          rw [List.take_succ_eq_append_getElem k1, List.take_succ_eq_append_getElem k2, HA.out, q]
        have HF : Hid (l[i] ≠ r[i] → decide (l = r) = false) := hid_of fun q => decide_eq_false fun e => q (by subst e; rfl)
        generalize l[i] = x at *
        generalize r[i] = y at *
        have w2 : IntKind.i64.wrap ((i : Int) + 1) = (i : Int) + 1 := IntWalk.i64_in _ (by omega)
        clear q1 q2
        by_cases hxy : x = y
        · rw [decide_eq_true hxy] at hlx
          have HN2 := hid_of (HN.out hxy)
          clear hxy HN HF
          generalize mk x = X at *
          generalize mk y = Y at *
          go_wp2_with fail
          go_quiet (fail)
          go_wp2_with fail
          go_roundg g'
          case measure => omega
          case rel => exact ⟨i + 1, by omega, by omega, by simp, HN2, by obtain ⟨m, e⟩ := R.out; exact ⟨m + nq, by rw [e, World.drewN_drewN]⟩⟩
        · rw [decide_eq_false hxy] at hlx
          have HF2 := hid_of (HF.out hxy)
          clear hxy HN HF
          generalize mk x = X at *
          generalize mk y = Y at *
          go_wp2_with fail
          go_quiet (fail)
          go_wp2_with fail
          go_ret
          exact ⟨ret_b HF2.out.symm, by obtain ⟨m, e⟩ := R.out; exact ⟨m + nq, by rw [e, World.drewN_drewN]⟩⟩
      · have HT : Hid (decide (l = r) = true) := hid_of (decide_eq_true (by
          have := HA.out
          rwa [List.take_of_length_le (by have := HL.out; omega), List.take_of_length_le (by have := HL.out; have := HE.out; omega)] at this))
        go_wp2_with fail
        go_ret
        exact ⟨ret_b HT.out.symm, R.out⟩
  · have HF : Hid (decide (l = r) = false) := hid_of (decide_eq_false fun e => hlen (by rw [e]))
    have g1 : ((l.length : Int) != (r.length : Int)) = true := by simp; omega
    generalize l.length = N at *
    generalize r.length = M at *
    clear h1 h2 hlen hl hr hc hc'
    go_enter Tryz.func57, Tryz.ntmps57
    go_wp2_with fail
    go_ret
    exact ⟨ret_b HF.out.symm, 0, rfl⟩
theorem same_true {G G' : Nat → Prop} {w : World} {u v : Value} {l r : List El} (h : SL G w u l) (h' : SL G' w v r) (e : l = r) (hl : l.length ≤ 140737488355328) :
    Calls Tryz.prog 57 #[u, v] w fun e w' => e = .returned (.bool true) ∧ ∃ m, w' = w.drewN m := by
  have := same_call h h' hl (by rw [← e]; exact hl)
  rwa [decide_eq_true e] at this
def ord (x y : Bs) : Int := if x < y then -1 else if y < x then 1 else 0
set_option maxRecDepth 100000 in
theorem nan_call (x : ByteArray) (w : World) : Calls Tryz.prog 139 #[.string x] w fun e w' => e = .returned (.bool false) ∧ w' = w := by
  go_enter Tryz.func139, Tryz.ntmps139
  go_wp2
  go_ret
  exact ⟨by simp, rfl⟩
set_option maxRecDepth 100000 in
theorem cmp_call (x y : Bs) (w : World) : Calls Tryz.prog 196 #[V x, V y] w fun e w' => e = .returned (.int .i64 (ord x y)) ∧ w' = w := by
  have h1 := str_lt x y
  have h2 := str_eq x y
  have N1 := hid_of (nan_call (mk x) w)
  have N2 := hid_of (nan_call (mk y) w)
  show Calls Tryz.prog 196 #[.string (mk x), .string (mk y)] w _
  unfold ord
  rcases lt_tot x y with q | q | q
  · rw [if_pos q]
    rw [decide_eq_true q] at h1
    rw [decide_eq_false (lt_ne q)] at h2
    clear q
    generalize mk x = X at *
    generalize mk y = Y at *
    go_enter Tryz.func196, Tryz.ntmps196
    go_wp2_with fail
    refine N1.out.mono ?_
    rintro e w1 ⟨rfl, rfl⟩
    go_wp2_with fail
    refine N2.out.mono ?_
    rintro e w1 ⟨rfl, rfl⟩
    go_wp2_with fail
    go_ret
    exact ⟨rfl, rfl⟩
  · rw [q, if_neg (List.lt_irrefl y), if_neg (List.lt_irrefl y)]
    rw [q, decide_eq_false (List.lt_irrefl y)] at h1
    rw [decide_eq_true q, q] at h2
    rw [q] at N1
    clear q
    generalize mk y = Y at *
    go_enter Tryz.func196, Tryz.ntmps196
    go_wp2_with fail
    refine N1.out.mono ?_
    rintro e w1 ⟨rfl, rfl⟩
    go_wp2_with fail
    refine N2.out.mono ?_
    rintro e w1 ⟨rfl, rfl⟩
    go_wp2_with fail
    go_ret
    exact ⟨rfl, rfl⟩
  · rw [if_neg (lt_not q), if_pos q]
    rw [decide_eq_false (lt_not q)] at h1
    rw [decide_eq_false (lt_ne q).symm] at h2
    clear q
    generalize mk x = X at *
    generalize mk y = Y at *
    go_enter Tryz.func196, Tryz.ntmps196
    go_wp2_with fail
    refine N1.out.mono ?_
    rintro e w1 ⟨rfl, rfl⟩
    go_wp2_with fail
    refine N2.out.mono ?_
    rintro e w1 ⟨rfl, rfl⟩
    go_wp2_with fail
    go_ret
    exact ⟨rfl, rfl⟩
end Go.Proofs.YtpnigkjmofhmbabGreat.Small
end
section
namespace Go.Proofs.YtpnigkjmofhmbabGreat.Equal
open Go.RowKit Go.Maps
open Go.Proofs.YtpnigkjmofhmbabGreat.SetMath
open Go.Proofs.YtpnigkjmofhmbabGreat.Base
open Go.Proofs.YtpnigkjmofhmbabGreat.Neq
set_option linter.unusedVariables false

set_option maxHeartbeats 2000000 in
set_option maxRecDepth 100000 in
theorem eqF_call (v u : Value) (l r : FRow.LL) (w : World) (hv : FRow.FS w v l) (hu : FRow.FS w u r) (hl : l.length ≤ 140737488355328) (hr : r.length ≤ 140737488355328) : Calls Tryz.prog 105 #[v, u] w fun e w' => e = .returned (.bool (decide (l = r))) ∧ Below w.heap.size w w' := by
  obtain ⟨a, c, rfl, hc, hv⟩ := hv
  obtain ⟨d, f, rfl, hf, hu⟩ := hu
  by_cases hlen : l.length = r.length
  · have HV := hid_of hv
    have HU := hid_of hu
    have HL := hid_of hlen
    obtain ⟨N, hN⟩ : ∃ N, N = l.length := ⟨_, rfl⟩
    have HN := hid_of hN
    rw [← hlen, ← hN]
    have hlN : N ≤ 140737488355328 := by rw [hN]; exact hl
    clear hv hu hlen hN hl hr hc hf
    go_enter Tryz.func105, Tryz.ntmps105
    go_wp2_with fail
    go_loopg [13] N (fun g si wx => ∃ k : Nat, k ≤ N ∧ N ≤ k + g ∧ si = .int .i64 (k : Int) ∧ Hid (l.take k = r.take k) ∧ Hid (Below w.heap.size w wx))
    case atStart => exact ⟨0, by omega, by omega, rfl, hid_of rfl, hid_of (Below.refl _ _)⟩
    case round =>
      obtain ⟨k, hk, hg, rfl, HT, HB⟩ := hrel
      by_cases hlt : k < N
      · obtain ⟨g', rfl⟩ : ∃ g', gk = g' + 1 := ⟨gk - 1, by omega⟩
        have k1 : k < l.length := by rw [← HN.out]; exact hlt
        have k2 : k < r.length := by rw [← HL.out, ← HN.out]; exact hlt
        obtain ⟨ga, oa, rfl, ha⟩ : ∃ g o, a = some ⟨g, o, none⟩ ∧ FRow.eAt wr g o l := by
          rcases HV.out with h | ⟨g, o, e, h⟩
          · subst h; simp at k1
          · exact ⟨g, o, e, fun k hk => ⟨FRow.cell_on HB.out (h k hk).1, FRow.cell_on HB.out (h k hk).2⟩⟩
        obtain ⟨gd, od, rfl, hd⟩ : ∃ g o, d = some ⟨g, o, none⟩ ∧ FRow.eAt wr g o r := by
          rcases HU.out with h | ⟨g, o, e, h⟩
          · subst h; simp at k2
          · exact ⟨g, o, e, fun k hk => ⟨FRow.cell_on HB.out (h k hk).1, FRow.cell_on HB.out (h k hk).2⟩⟩
        obtain ⟨a0, a1⟩ := ha k k1
        obtain ⟨d0, d1⟩ := hd k k2
        have e2 : IntKind.i64.wrap ((k : Int) + 1) = (k : Int) + 1 := IntWalk.i64_in _ (by omega)
        have g2 : (k : Int) < (N : Int) := by omega
        have HT2 : Hid (l[k]'k1 = r[k]'k2 → l.take (k + 1) = r.take (k + 1)) := hid_of fun q => by
          rw [List.take_succ_eq_append_getElem k1, List.take_succ_eq_append_getElem k2, HT.out, q]
        have HNE : Hid (l[k]'k1 ≠ r[k]'k2 → l ≠ r) := hid_of fun q e => q (by subst e; rfl)
        obtain ⟨p, hp⟩ : ∃ p, p = l[k]'k1 := ⟨_, rfl⟩
        obtain ⟨q, hq⟩ : ∃ q, q = r[k]'k2 := ⟨_, rfl⟩
        rw [← hp] at a0 a1 HT2 HNE
        rw [← hq] at d0 d1 HT2 HNE
        have hne := neqF p q
        clear ha hd hp hq
        by_cases hpq : p = q
        · have hd0 : decide (p ≠ q) = false := by simp [hpq]
          rw [hd0] at hne
          have HT3 := hid_of (HT2.out hpq)
          clear hpq hd0 HT2 HNE
          generalize mk p.1 = P1 at *
          generalize mk p.2 = P2 at *
          generalize mk q.1 = Q1 at *
          generalize mk q.2 = Q2 at *
          go_wp2_with fail
          go_quiet (fail)
          go_wp2_with fail
          go_roundg g'
          case measure => omega
          case rel => exact ⟨k + 1, by omega, by omega, by rw [show ((k + 1 : Nat) : Int) = (k : Int) + 1 from by omega], HT3, hid_of (FRow.bdrew HB.out nq)⟩
        · have hd0 : decide (p ≠ q) = true := by simp [hpq]
          rw [hd0] at hne
          have HT3 := hid_of (HNE.out hpq)
          clear hpq hd0 HT2 HNE
          generalize mk p.1 = P1 at *
          generalize mk p.2 = P2 at *
          generalize mk q.1 = Q1 at *
          generalize mk q.2 = Q2 at *
          go_wp2_with fail
          go_quiet (fail)
          go_wp2_with fail
          go_ret
          exact ⟨ret_b (decide_eq_false HT3.out).symm, FRow.bdrew HB.out nq⟩
      · obtain rfl : k = N := by omega
        have gi : ¬ (k : Int) < (k : Int) := by omega
        have HE : Hid (l = r) := hid_of (by
          have := HT.out
          rw [List.take_of_length_le (by rw [← HN.out]; exact Nat.le_refl _), List.take_of_length_le (by rw [← HL.out, ← HN.out]; exact Nat.le_refl _)] at this
          exact this)
        go_wp2_with fail
        go_ret
        exact ⟨ret_b (decide_eq_true HE.out).symm, HB.out⟩
  · have HE : Hid (decide (l = r) = false) := hid_of (decide_eq_false (fun e => hlen (by rw [e])))
    have g1 : ((l.length : Int) != (r.length : Int)) = true := by simp; omega
    obtain ⟨N, hN⟩ : ∃ N, N = l.length := ⟨_, rfl⟩
    obtain ⟨M, hM⟩ : ∃ M, M = r.length := ⟨_, rfl⟩
    rw [← hN, ← hM] at g1
    rw [← hN, ← hM]
    clear hv hu hlen hN hM hl hr hc hf
    go_enter Tryz.func105, Tryz.ntmps105
    go_wp2_with fail
    go_ret
    exact ⟨ret_b HE.out.symm, Below.refl _ _⟩

set_option maxHeartbeats 2000000 in
set_option maxRecDepth 100000 in
theorem eqE_call (v u : Value) (l r : ERow.LL) (w : World) (hv : ERow.FS w v l) (hu : ERow.FS w u r) (hl : l.length ≤ 140737488355328) (hr : r.length ≤ 140737488355328) : Calls Tryz.prog 106 #[v, u] w fun e w' => e = .returned (.bool (decide (l = r))) ∧ Below w.heap.size w w' := by
  obtain ⟨a, c, rfl, hc, hv⟩ := hv
  obtain ⟨d, f, rfl, hf, hu⟩ := hu
  by_cases hlen : l.length = r.length
  · have HV := hid_of hv
    have HU := hid_of hu
    have HL := hid_of hlen
    obtain ⟨N, hN⟩ : ∃ N, N = l.length := ⟨_, rfl⟩
    have HN := hid_of hN
    rw [← hlen, ← hN]
    have hlN : N ≤ 140737488355328 := by rw [hN]; exact hl
    clear hv hu hlen hN hl hr hc hf
    go_enter Tryz.func106, Tryz.ntmps106
    go_wp2_with fail
    go_loopg [13] N (fun g si wx => ∃ k : Nat, k ≤ N ∧ N ≤ k + g ∧ si = .int .i64 (k : Int) ∧ Hid (l.take k = r.take k) ∧ Hid (Below w.heap.size w wx))
    case atStart => exact ⟨0, by omega, by omega, rfl, hid_of rfl, hid_of (Below.refl _ _)⟩
    case round =>
      obtain ⟨k, hk, hg, rfl, HT, HB⟩ := hrel
      by_cases hlt : k < N
      · obtain ⟨g', rfl⟩ : ∃ g', gk = g' + 1 := ⟨gk - 1, by omega⟩
        have k1 : k < l.length := by rw [← HN.out]; exact hlt
        have k2 : k < r.length := by rw [← HL.out, ← HN.out]; exact hlt
        obtain ⟨ga, oa, rfl, ha⟩ : ∃ g o, a = some ⟨g, o, none⟩ ∧ ERow.eAt wr g o l := by
          rcases HV.out with h | ⟨g, o, e, h⟩
          · subst h; simp at k1
          · exact ⟨g, o, e, fun k hk => ⟨ERow.cell_on HB.out (h k hk).1, ERow.cell_on HB.out (h k hk).2⟩⟩
        obtain ⟨gd, od, rfl, hd⟩ : ∃ g o, d = some ⟨g, o, none⟩ ∧ ERow.eAt wr g o r := by
          rcases HU.out with h | ⟨g, o, e, h⟩
          · subst h; simp at k2
          · exact ⟨g, o, e, fun k hk => ⟨ERow.cell_on HB.out (h k hk).1, ERow.cell_on HB.out (h k hk).2⟩⟩
        obtain ⟨a0, a1⟩ := ha k k1
        obtain ⟨d0, d1⟩ := hd k k2
        have e2 : IntKind.i64.wrap ((k : Int) + 1) = (k : Int) + 1 := IntWalk.i64_in _ (by omega)
        have g2 : (k : Int) < (N : Int) := by omega
        have HT2 : Hid (l[k]'k1 = r[k]'k2 → l.take (k + 1) = r.take (k + 1)) := hid_of fun q => by
          rw [List.take_succ_eq_append_getElem k1, List.take_succ_eq_append_getElem k2, HT.out, q]
        have HNE : Hid (l[k]'k1 ≠ r[k]'k2 → l ≠ r) := hid_of fun q e => q (by subst e; rfl)
        obtain ⟨p, hp⟩ : ∃ p, p = l[k]'k1 := ⟨_, rfl⟩
        obtain ⟨q, hq⟩ : ∃ q, q = r[k]'k2 := ⟨_, rfl⟩
        rw [← hp] at a0 a1 HT2 HNE
        rw [← hq] at d0 d1 HT2 HNE
        have hne := neqE p q
        clear ha hd hp hq
        by_cases hpq : p = q
        · have hd0 : decide (p ≠ q) = false := by simp [hpq]
          rw [hd0] at hne
          have HT3 := hid_of (HT2.out hpq)
          clear hpq hd0 HT2 HNE
          generalize mk p.1 = P1 at *
          generalize p.2 = P2 at *
          generalize mk q.1 = Q1 at *
          generalize q.2 = Q2 at *
          go_wp2_with fail
          go_quiet (fail)
          go_wp2_with fail
          go_roundg g'
          case measure => omega
          case rel => exact ⟨k + 1, by omega, by omega, by rw [show ((k + 1 : Nat) : Int) = (k : Int) + 1 from by omega], HT3, hid_of (ERow.bdrew HB.out nq)⟩
        · have hd0 : decide (p ≠ q) = true := by simp [hpq]
          rw [hd0] at hne
          have HT3 := hid_of (HNE.out hpq)
          clear hpq hd0 HT2 HNE
          generalize mk p.1 = P1 at *
          generalize p.2 = P2 at *
          generalize mk q.1 = Q1 at *
          generalize q.2 = Q2 at *
          go_wp2_with fail
          go_quiet (fail)
          go_wp2_with fail
          go_ret
          exact ⟨ret_b (decide_eq_false HT3.out).symm, ERow.bdrew HB.out nq⟩
      · obtain rfl : k = N := by omega
        have gi : ¬ (k : Int) < (k : Int) := by omega
        have HE : Hid (l = r) := hid_of (by
          have := HT.out
          rw [List.take_of_length_le (by rw [← HN.out]; exact Nat.le_refl _), List.take_of_length_le (by rw [← HL.out, ← HN.out]; exact Nat.le_refl _)] at this
          exact this)
        go_wp2_with fail
        go_ret
        exact ⟨ret_b (decide_eq_true HE.out).symm, HB.out⟩
  · have HE : Hid (decide (l = r) = false) := hid_of (decide_eq_false (fun e => hlen (by rw [e])))
    have g1 : ((l.length : Int) != (r.length : Int)) = true := by simp; omega
    obtain ⟨N, hN⟩ : ∃ N, N = l.length := ⟨_, rfl⟩
    obtain ⟨M, hM⟩ : ∃ M, M = r.length := ⟨_, rfl⟩
    rw [← hN, ← hM] at g1
    rw [← hN, ← hM]
    clear hv hu hlen hN hM hl hr hc hf
    go_enter Tryz.func106, Tryz.ntmps106
    go_wp2_with fail
    go_ret
    exact ⟨ret_b HE.out.symm, Below.refl _ _⟩

theorem eqS_call {G G' : Nat → Prop} {w : World} {u v : Value} {l r : List El} (h : SL G w u l) (h' : SL G' w v r) (hl : l.length ≤ 140737488355328) (hr : r.length ≤ 140737488355328) :
    Calls Tryz.prog 104 #[u, v] w fun e w' => e = .returned (.bool (decide (l = r))) ∧ Below w.heap.size w w' := by
  obtain ⟨a, c, rfl, hc, h1⟩ := h
  obtain ⟨a', c', rfl, hc', h2⟩ := h'
  by_cases hlen : l.length = r.length
  · by_cases h0 : l = []
    · subst h0
      obtain rfl : r = [] := List.length_eq_zero_iff.1 hlen.symm
      refine (Tryz.slices_Equal_string_empty a a' c 0 c' w (by decide)).mono ?_
      rintro e w' ⟨rfl, rfl⟩
      exact ⟨by simp, Below.refl _ _⟩
    · have hp : 0 < l.length := List.length_pos_iff.2 h0
      obtain ⟨g1, o1, rfl, _, q1⟩ := Rd.get h1 hp
      obtain ⟨g2, o2, rfl, _, q2⟩ := Rd.get h2 (by omega)
      refine (Tryz.slices_Equal_string g1 o1 l.length c g2 o2 r.length c' (l.map mk) (r.map mk) w (by simp) (by simp) (by omega) (by omega) (fun j hj => ?_) (fun j hj => ?_)).mono ?_
      · have hj' : j < l.length := by simpa using hj
        rw [q1 j l[j] (List.getElem?_eq_getElem hj')]
        simp [List.getD, hj']
      · have hj' : j < r.length := by simpa using hj
        rw [q2 j r[j] (List.getElem?_eq_getElem hj')]
        simp [List.getD, hj']
      · rintro e w' ⟨rfl, q, rfl⟩
        refine ⟨ret_b ?_, ⟨rfl, rfl, rfl, Nat.le_refl _, fun _ _ => rfl⟩⟩
        rw [List.take_of_length_le (by simp), List.take_of_length_le (by simp)]
        have : (l.map mk = r.map mk) ↔ l = r := ⟨fun e => by
          have := congrArg (List.map bs) e
          rwa [List.map_map, List.map_map, show (bs ∘ mk) = id from rfl, List.map_id, List.map_id] at this, fun e => by rw [e]⟩
        simp [this]
  · refine (Tryz.slices_Equal_string_lens a a' l.length c r.length c' w hlen).mono ?_
    rintro e w' ⟨rfl, rfl⟩
    exact ⟨ret_b (decide_eq_false fun e => hlen (by rw [e])).symm, Below.refl _ _⟩
end Go.Proofs.YtpnigkjmofhmbabGreat.Equal
end
