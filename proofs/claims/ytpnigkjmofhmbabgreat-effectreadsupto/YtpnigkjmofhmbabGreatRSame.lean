/- Same: the document's. -/
import Derived.Test.YtpnigkjmofhmbabGreatSTouchM
import Derived.Test.YtpnigkjmofhmbabGreatSSortM
namespace Go.Proofs.YtpnigkjmofhmbabGreat.RSame
open Go.RowKit Go.Maps
open Go.Proofs.YtpnigkjmofhmbabGreat.SetMath
open Go.Proofs.YtpnigkjmofhmbabGreat.ValueMath
open Go.Proofs.YtpnigkjmofhmbabGreat.Base
open Go.Proofs.YtpnigkjmofhmbabGreat.Vals
open Go.Proofs.YtpnigkjmofhmbabGreat.Neq
set_option linter.unusedVariables false

set_option maxHeartbeats 8000000 in
set_option maxRecDepth 100000 in
theorem rsame_call {w : World} {u v : Value} {x y : Vl} (h : VA w u x) (h' : VA w v y) (fx : Fit x) (fy : Fit y) :
    Calls Tryz.prog 27 #[u, v] w fun e w' => e = .returned (.bool (sm x y)) ∧ Below w.heap.size w w' := by
  obtain ⟨f1, f2, f3⟩ := Same.Fit.len fx
  obtain ⟨g1, g2, g3⟩ := Same.Fit.len fy
  clear fx fy
  obtain ⟨a, b, c, rfl, h1, h2, h3⟩ := h
  obtain ⟨a', b', c', rfl, k1, k2, k3⟩ := h'
  obtain ⟨xk, xt, xl, xf, xr⟩ := x
  obtain ⟨yk, yt, yl, yf, yr⟩ := y
  simp only [sm] at *
  have HS := hid_of fun (W : World) (hW : Below w.heap.size w W) => Small.same_call (h1.below hW) (k1.below hW) f1 g1
  have HF := hid_of h2
  have HF' := hid_of k2
  have HE := hid_of h3
  have HE' := hid_of k3
  obtain ⟨la, lc, rfl, _, _⟩ := id h1
  obtain ⟨fa, fc, rfl, _, _⟩ := id h2
  obtain ⟨ea, ec, rfl, _, _⟩ := id h3
  obtain ⟨la', lc', rfl, _, _⟩ := id k1
  obtain ⟨fa', fc', rfl, _, _⟩ := id k2
  obtain ⟨ea', ec', rfl, _, _⟩ := id k3
  have te := str_eq xt yt
  generalize mk xt = X at *
  generalize mk yt = Y at *
  generalize xl.length = n1 at *
  generalize yl.length = m1 at *
  generalize hn2 : List.length xf = n2 at *
  generalize hn3 : List.length xr = n3 at *
  generalize hm2 : List.length yf = m2 at *
  generalize hm3 : List.length yr = m3 at *
  have HN := hid_of (And.intro hn2.symm (And.intro hn3.symm (And.intro hm2.symm hm3.symm)))
  generalize decide (xt = yt) = dt at *
  generalize decide (xl = yl) = dl at *
  clear h1 h2 h3 k1 k2 k3 f1 g1 hn2 hn3 hm2 hm3
  obtain ⟨V, hV⟩ : ∃ V, V = (w.alloc (.cells #[.int .i64 xk, .string X, .slice la n1 lc, .slice fa n2 fc, .slice ea n3 ec] 38)).alloc (.cells #[.int .i64 yk, .string Y, .slice la' m1 lc', .slice fa' m2 fc', .slice ea' m3 ec'] 38) := ⟨_, rfl⟩
  have bV : Below w.heap.size w V := by rw [hV]; exact FRow.bel (FRow.bnew w _) (FRow.bnew _ _) (Nat.le_refl _)
  have v0 : V.heap[w.heap.size]? = some (.cells #[.int .i64 xk, .string X, .slice la n1 lc, .slice fa n2 fc, .slice ea n3 ec] 38 (0, 0)) := by rw [hV, hao _ _ _ (by simp)]; exact heap_alloc_new w _
  have v1 : V.heap[w.heap.size + 1]? = some (.cells #[.int .i64 yk, .string Y, .slice la' m1 lc', .slice fa' m2 fc', .slice ea' m3 ec'] 38 (0, 0)) := by
    rw [hV]
    have := heap_alloc_new (w.alloc (.cells #[.int .i64 xk, .string X, .slice la n1 lc, .slice fa n2 fc, .slice ea n3 ec] 38)) (.cells #[.int .i64 yk, .string Y, .slice la' m1 lc', .slice fa' m2 fc', .slice ea' m3 ec'] 38)
    simpa using this
  have HV := hid_of hV
  have HB := hid_of bV
  have HX : Hid (∀ W, Below V.heap.size V W → W.heap[w.heap.size]? = some (.cells #[.int .i64 xk, .string X, .slice la n1 lc, .slice fa n2 fc, .slice ea n3 ec] 38 (0, 0)) ∧ W.heap[w.heap.size + 1]? = some (.cells #[.int .i64 yk, .string Y, .slice la' m1 lc', .slice fa' m2 fc', .slice ea' m3 ec'] 38 (0, 0))) :=
    hid_of fun W hW => ⟨(hW.block _ (lt_of v0)).trans v0, (hW.block _ (lt_of v1)).trans v1⟩
  clear v0 v1 bV hV
  cases hk : (xk != yk)
  · cases dt
    · go_enter Tryz.func27, Tryz.ntmps27
      go_wp2_with fail
      go_ret
      exact ⟨ret_b (by simp), by rw [← HV.out]; exact HB.out⟩
    · go_enter Tryz.func27, Tryz.ntmps27
      go_wp2_with fail
      rw [← HV.out]
      refine (HS.out V HB.out).mono ?_
      rintro e w1 ⟨rfl, m, hw1⟩
      have b1 : Below V.heap.size V w1 := by rw [hw1]; exact bel_drewN V m
      clear hw1
      obtain ⟨x0, x1⟩ := HX.out w1 b1
      obtain ⟨⟨_, _, _, c3, c4⟩, _⟩ := box5 x0
      obtain ⟨⟨_, _, _, d3, d4⟩, _⟩ := box5 x1
      have BL := hid_of b1
      have BB := hid_of (FRow.bel HB.out b1 (Nat.le_refl _))
      clear x0 x1 b1
      cases dl
      · go_wp2_with fail
        go_ret
        exact ⟨ret_b (by simp), BB.out⟩
      · cases hf : ((n2 : Int) != (m2 : Int))
        · cases hr : ((n3 : Int) != (m3 : Int))
          · have hf1 : (n2 : Int) = m2 := by simpa using hf
            have hf2 : n2 = m2 := by omega
            clear hf1
            have hr1 : (n3 : Int) = m3 := by simpa using hr
            have hr2 : n3 = m3 := by omega
            clear hr1
            subst hf2 hr2
            have hkk : (xk == yk) = true := by simpa using hk
            have HKK := hid_of hkk
            clear hkk
            go_wp2_with fail
            clear hf hr hk c3 c4 d3 d4
            go_loopg [5] n2 (fun g si wx => ∃ k : Nat, k ≤ n2 ∧ n2 ≤ k + g ∧ si = .int .i64 (k : Int) ∧ Hid (xf.take k = yf.take k) ∧ Hid (Below V.heap.size V wx))
            case atStart => exact ⟨0, by omega, by omega, rfl, hid_of rfl, hid_of BL.out⟩
            case round =>
              obtain ⟨k, hk, hg, rfl, HT, BR⟩ := hrel
              obtain ⟨x0, x1⟩ := HX.out wr BR.out
              obtain ⟨⟨_, _, _, c3, c4⟩, _⟩ := box5 x0
              obtain ⟨⟨_, _, _, d3, d4⟩, _⟩ := box5 x1
              have BW := hid_of (FRow.bel HB.out BR.out (Nat.le_refl _))
              clear x0 x1
              by_cases hlt : k < n2
              · obtain ⟨g', rfl⟩ : ∃ g', gk = g' + 1 := ⟨gk - 1, by omega⟩
                have k1 : k < List.length xf := by rw [← HN.out.1]; exact hlt
                have k2 : k < List.length yf := by rw [← HN.out.2.2.1]; omega
                obtain ⟨ga, oa, rfl, ha⟩ := FRow.FS.at (HF.out.below BW.out) k1
                obtain ⟨gd, od, rfl, hd⟩ := FRow.FS.at (HF'.out.below BW.out) k2
                obtain ⟨a0, a1⟩ := ha k k1
                obtain ⟨d0, d1⟩ := hd k k2
                have e2 : IntKind.i64.wrap ((k : Int) + 1) = (k : Int) + 1 := IntWalk.i64_in _ (by omega)
                have g2 : (k : Int) < (n2 : Int) := by omega
                have HT2 : Hid (xf[k]'k1 = yf[k]'k2 → xf.take (k + 1) = yf.take (k + 1)) := hid_of fun q => by
                  rw [List.take_succ_eq_append_getElem k1, List.take_succ_eq_append_getElem k2, HT.out, q]
                have HNE : Hid (xf[k]'k1 ≠ yf[k]'k2 → decide (xf = yf) = false) := hid_of fun q => decide_eq_false fun e => q (by subst e; rfl)
                obtain ⟨p, hp⟩ : ∃ p, p = xf[k]'k1 := ⟨_, rfl⟩
                obtain ⟨q, hq⟩ : ∃ q, q = yf[k]'k2 := ⟨_, rfl⟩
                rw [← hp] at a0 a1 HT2 HNE
                rw [← hq] at d0 d1 HT2 HNE
                have hne := neqF p q
                clear ha hd hp hq
                by_cases hpq : p = q
                · have hd0 : decide (p ≠ q) = false := by simp [hpq]
                  rw [hd0] at hne
                  have HT3 := hid_of (HT2.out hpq)
                  clear hpq hd0 HT2 HNE
                  generalize mk p.1 = P1 at *
                  generalize mk p.2 = P2 at *
                  generalize mk q.1 = Q1 at *
                  generalize mk q.2 = Q2 at *
                  go_wp2_with fail
                  go_quiet (fail)
                  go_wp2_with fail
                  go_roundg g'
                  case measure => omega
                  case rel => exact ⟨k + 1, by omega, by omega, by rw [show ((k + 1 : Nat) : Int) = (k : Int) + 1 from by omega], HT3, hid_of (FRow.bdrew BR.out nq)⟩
                · have hd0 : decide (p ≠ q) = true := by simp [hpq]
                  rw [hd0] at hne
                  have HT3 := hid_of (HNE.out hpq)
                  clear hpq hd0 HT2 HNE
                  generalize mk p.1 = P1 at *
                  generalize mk p.2 = P2 at *
                  generalize mk q.1 = Q1 at *
                  generalize mk q.2 = Q2 at *
                  go_wp2_with fail
                  go_quiet (fail)
                  go_wp2_with fail
                  go_ret
                  exact ⟨ret_b (by rw [HKK.out, HT3.out]; simp), FRow.bdrew BW.out nq⟩
              · obtain rfl : k = n2 := by omega
                have gi : ¬ (k : Int) < (k : Int) := by omega
                have HD1 : Hid (decide (xf = yf) = true) := hid_of (decide_eq_true (by
                  have := HT.out
                  rw [List.take_of_length_le (by rw [← HN.out.1]; exact Nat.le_refl _), List.take_of_length_le (by rw [← HN.out.2.2.1]; omega)] at this
                  exact this))
                clear hlt HT
                have BL2 := hid_of BR.out
                clear hg BR BW BL
                have BL := hid_of BL2.out
                clear BL2
                go_wp2_with fail
                clear c3 c4 d3 d4
                go_loopg [6] n3 (fun g si wx => ∃ k : Nat, k ≤ n3 ∧ n3 ≤ k + g ∧ si = .int .i64 (k : Int) ∧ Hid (xr.take k = yr.take k) ∧ Hid (Below V.heap.size V wx))
                case atStart => exact ⟨0, by omega, by omega, rfl, hid_of rfl, hid_of BL.out⟩
                case round =>
                  obtain ⟨k, hk, hg, rfl, HT, BR⟩ := hrel
                  obtain ⟨x0, x1⟩ := HX.out wr BR.out
                  obtain ⟨⟨_, _, _, c3, c4⟩, _⟩ := box5 x0
                  obtain ⟨⟨_, _, _, d3, d4⟩, _⟩ := box5 x1
                  have BW := hid_of (FRow.bel HB.out BR.out (Nat.le_refl _))
                  clear x0 x1
                  by_cases hlt : k < n3
                  · obtain ⟨g', rfl⟩ : ∃ g', gk = g' + 1 := ⟨gk - 1, by omega⟩
                    have k1 : k < List.length xr := by rw [← HN.out.2.1]; exact hlt
                    have k2 : k < List.length yr := by rw [← HN.out.2.2.2]; omega
                    obtain ⟨ga, oa, rfl, ha⟩ := ERow.FS.at (HE.out.below BW.out) k1
                    obtain ⟨gd, od, rfl, hd⟩ := ERow.FS.at (HE'.out.below BW.out) k2
                    obtain ⟨a0, a1⟩ := ha k k1
                    obtain ⟨d0, d1⟩ := hd k k2
                    have e2 : IntKind.i64.wrap ((k : Int) + 1) = (k : Int) + 1 := IntWalk.i64_in _ (by omega)
                    have g2 : (k : Int) < (n3 : Int) := by omega
                    have HT2 : Hid (xr[k]'k1 = yr[k]'k2 → xr.take (k + 1) = yr.take (k + 1)) := hid_of fun q => by
                      rw [List.take_succ_eq_append_getElem k1, List.take_succ_eq_append_getElem k2, HT.out, q]
                    have HNE : Hid (xr[k]'k1 ≠ yr[k]'k2 → decide (xr = yr) = false) := hid_of fun q => decide_eq_false fun e => q (by subst e; rfl)
                    obtain ⟨p, hp⟩ : ∃ p, p = xr[k]'k1 := ⟨_, rfl⟩
                    obtain ⟨q, hq⟩ : ∃ q, q = yr[k]'k2 := ⟨_, rfl⟩
                    rw [← hp] at a0 a1 HT2 HNE
                    rw [← hq] at d0 d1 HT2 HNE
                    have hne := neqE p q
                    clear ha hd hp hq
                    by_cases hpq : p = q
                    · have hd0 : decide (p ≠ q) = false := by simp [hpq]
                      rw [hd0] at hne
                      have HT3 := hid_of (HT2.out hpq)
                      clear hpq hd0 HT2 HNE
                      generalize mk p.1 = P1 at *
                      generalize p.2 = P2 at *
                      generalize mk q.1 = Q1 at *
                      generalize q.2 = Q2 at *
                      go_wp2_with fail
                      go_quiet (fail)
                      go_wp2_with fail
                      go_roundg g'
                      case measure => omega
                      case rel => exact ⟨k + 1, by omega, by omega, by rw [show ((k + 1 : Nat) : Int) = (k : Int) + 1 from by omega], HT3, hid_of (FRow.bdrew BR.out nq)⟩
                    · have hd0 : decide (p ≠ q) = true := by simp [hpq]
                      rw [hd0] at hne
                      have HT3 := hid_of (HNE.out hpq)
                      clear hpq hd0 HT2 HNE
                      generalize mk p.1 = P1 at *
                      generalize p.2 = P2 at *
                      generalize mk q.1 = Q1 at *
                      generalize q.2 = Q2 at *
                      go_wp2_with fail
                      go_quiet (fail)
                      go_wp2_with fail
                      go_ret
                      exact ⟨ret_b (by rw [HKK.out, HT3.out]; simp), FRow.bdrew BW.out nq⟩
                  · obtain rfl : k = n3 := by omega
                    have gi : ¬ (k : Int) < (k : Int) := by omega
                    have HD2 : Hid (decide (xr = yr) = true) := hid_of (decide_eq_true (by
                      have := HT.out
                      rw [List.take_of_length_le (by rw [← HN.out.2.1]; exact Nat.le_refl _), List.take_of_length_le (by rw [← HN.out.2.2.2]; omega)] at this
                      exact this))
                    clear hlt HT
                    go_wp2_with fail
                    go_ret
                    exact ⟨ret_b (by rw [HKK.out, HD1.out, HD2.out]; simp), BW.out⟩
          · have HD : Hid (decide (xr = yr) = false) := hid_of (decide_eq_false fun e => by
              have h1 := HN.out.2.1
              have h2 := HN.out.2.2.2
              rw [e, ← h2] at h1
              simp [h1] at hr)
            go_wp2_with fail
            go_ret
            exact ⟨ret_b (by rw [HD.out]; simp), BB.out⟩
        · have HD : Hid (decide (xf = yf) = false) := hid_of (decide_eq_false fun e => by
            have h1 := HN.out.1
            have h2 := HN.out.2.2.1
            rw [e, ← h2] at h1
            simp [h1] at hf)
          go_wp2_with fail
          go_ret
          exact ⟨ret_b (by rw [HD.out]; simp), BB.out⟩
  · have hkk : (xk == yk) = false := by simpa using hk
    have HKK := hid_of hkk
    clear hkk
    go_enter Tryz.func27, Tryz.ntmps27
    go_wp2_with fail
    go_ret
    exact ⟨ret_b (by rw [HKK.out]; simp), by rw [← HV.out]; exact HB.out⟩
end Go.Proofs.YtpnigkjmofhmbabGreat.RSame
