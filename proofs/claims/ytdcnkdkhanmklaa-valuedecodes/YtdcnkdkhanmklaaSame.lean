/- Same: the program's. -/
import Derived.Test.YtdcnkdkhanmklaaVals
namespace Go.Proofs.Ytdcnkdkhanmklaa.Same
open Go.RowKit Go.Maps
open Go.Proofs.Ytdcnkdkhanmklaa.SetMath
open Go.Proofs.Ytdcnkdkhanmklaa.ValueMath
open Go.Proofs.Ytdcnkdkhanmklaa.Base
open Go.Proofs.Ytdcnkdkhanmklaa.Vals
set_option linter.unusedVariables false

theorem Fit.len {x : Vl} (h : Fit x) : x.list.length ≤ 140737488355328 ∧ x.fields.length ≤ 140737488355328 ∧ x.ranked.length ≤ 140737488355328 := by
  obtain ⟨h1, h2, h3⟩ := h
  unfold FRow.big at h2
  unfold ERow.big at h3
  exact ⟨by omega, by omega, by omega⟩
set_option maxHeartbeats 4000000 in
set_option maxRecDepth 100000 in
theorem same_call {w : World} {u v : Value} {x y : Vl} (h : VA w u x) (h' : VA w v y) (fx : Fit x) (fy : Fit y) :
    Calls Try.prog 24 #[u, v] w fun e w' => e = .returned (.bool (sm x y)) ∧ Below w.heap.size w w' := by
  obtain ⟨f1, f2, f3⟩ := Fit.len fx
  obtain ⟨g1, g2, g3⟩ := Fit.len fy
  clear fx fy
  obtain ⟨a, b, c, rfl, h1, h2, h3⟩ := h
  obtain ⟨a', b', c', rfl, k1, k2, k3⟩ := h'
  obtain ⟨xk, xt, xl, xf, xr⟩ := x
  obtain ⟨yk, yt, yl, yf, yr⟩ := y
  simp only [sm] at *
  have HS := hid_of fun (W : World) (hW : Below w.heap.size w W) => Equal.eqS_call (h1.below hW) (k1.below hW) f1 g1
  have HF := hid_of fun (W : World) (hW : Below w.heap.size w W) => Equal.eqF_call b b' xf yf W (h2.below hW) (k2.below hW) f2 g2
  have HE := hid_of fun (W : World) (hW : Below w.heap.size w W) => Equal.eqE_call c c' xr yr W (h3.below hW) (k3.below hW) f3 g3
  obtain ⟨la, lc, rfl, _, _⟩ := id h1
  obtain ⟨fa, fc, rfl, _, _⟩ := id h2
  obtain ⟨ea, ec, rfl, _, _⟩ := id h3
  obtain ⟨la', lc', rfl, _, _⟩ := id k1
  obtain ⟨fa', fc', rfl, _, _⟩ := id k2
  obtain ⟨ea', ec', rfl, _, _⟩ := id k3
  have te := str_eq xt yt
  generalize mk xt = X at *
  generalize mk yt = Y at *
  generalize xl.length = n1 at *
  generalize List.length xf = n2 at *
  generalize List.length xr = n3 at *
  generalize yl.length = m1 at *
  generalize List.length yf = m2 at *
  generalize List.length yr = m3 at *
  generalize decide (xt = yt) = dt at *
  generalize decide (xl = yl) = dl at *
  generalize decide (xf = yf) = df at *
  generalize decide (xr = yr) = dr at *
  clear h1 h2 h3 k1 k2 k3 f1 f2 f3 g1 g2 g3
  obtain ⟨V, hV⟩ : ∃ V, V = (w.alloc (.cells #[.int .i64 xk, .string X, .slice la n1 lc, .slice fa n2 fc, .slice ea n3 ec] 26)).alloc (.cells #[.int .i64 yk, .string Y, .slice la' m1 lc', .slice fa' m2 fc', .slice ea' m3 ec'] 26) := ⟨_, rfl⟩
  have bV : Below w.heap.size w V := by rw [hV]; exact FRow.bel (FRow.bnew w _) (FRow.bnew _ _) (Nat.le_refl _)
  have v0 : V.heap[w.heap.size]? = some (.cells #[.int .i64 xk, .string X, .slice la n1 lc, .slice fa n2 fc, .slice ea n3 ec] 26 (0, 0)) := by rw [hV, heap_alloc_old _ _ _ (by simp)]; exact heap_alloc_new w _
  have v1 : V.heap[w.heap.size + 1]? = some (.cells #[.int .i64 yk, .string Y, .slice la' m1 lc', .slice fa' m2 fc', .slice ea' m3 ec'] 26 (0, 0)) := by
    rw [hV]
    have := heap_alloc_new (w.alloc (.cells #[.int .i64 xk, .string X, .slice la n1 lc, .slice fa n2 fc, .slice ea n3 ec] 26)) (.cells #[.int .i64 yk, .string Y, .slice la' m1 lc', .slice fa' m2 fc', .slice ea' m3 ec'] 26)
    simpa using this
  have HV := hid_of hV
  have HB := hid_of bV
  have HX : Hid (∀ W, Below V.heap.size V W → W.heap[w.heap.size]? = some (.cells #[.int .i64 xk, .string X, .slice la n1 lc, .slice fa n2 fc, .slice ea n3 ec] 26 (0, 0)) ∧ W.heap[w.heap.size + 1]? = some (.cells #[.int .i64 yk, .string Y, .slice la' m1 lc', .slice fa' m2 fc', .slice ea' m3 ec'] 26 (0, 0))) :=
    hid_of fun W hW => ⟨(hW.block _ (lt_of v0)).trans v0, (hW.block _ (lt_of v1)).trans v1⟩
  clear v0 v1 bV hV
  cases hk : (xk == yk)
  · go_enter Try.func24, Try.ntmps24
    go_wp2_with fail
    go_ret
    exact ⟨ret_b (by simp), by rw [← HV.out]; exact HB.out⟩
  · cases dt
    · go_enter Try.func24, Try.ntmps24
      go_wp2_with fail
      go_ret
      exact ⟨ret_b (by simp), by rw [← HV.out]; exact HB.out⟩
    · go_enter Try.func24, Try.ntmps24
      go_wp2_with fail
      rw [← HV.out]
      refine (HS.out V HB.out).mono ?_
      rintro e w1 ⟨rfl, b1⟩
      obtain ⟨x0, x1⟩ := HX.out w1 b1
      obtain ⟨⟨_, _, _, c3, c4⟩, _⟩ := box5 x0
      obtain ⟨⟨_, _, _, d3, d4⟩, _⟩ := box5 x1
      have B1 := hid_of b1
      have BB := hid_of (FRow.bel HB.out b1 (Nat.le_refl _))
      clear x0 x1 b1
      cases dl
      · go_wp2_with fail
        go_ret
        exact ⟨ret_b (by simp), BB.out⟩
      · go_wp2_with fail
        refine (HF.out w1 BB.out).mono ?_
        rintro e w2 ⟨rfl, b2⟩
        clear c3 c4 d3 d4
        obtain ⟨x0, x1⟩ := HX.out w2 (FRow.bel B1.out b2 (Nat.le_refl _))
        obtain ⟨⟨_, _, _, _, c4⟩, _⟩ := box5 x0
        obtain ⟨⟨_, _, _, _, d4⟩, _⟩ := box5 x1
        have B2 := hid_of (FRow.bel BB.out b2 (Nat.le_refl _))
        clear x0 x1 b2
        cases df
        · go_wp2_with fail
          go_ret
          exact ⟨ret_b (by simp), B2.out⟩
        · go_wp2_with fail
          refine (HE.out w2 B2.out).mono ?_
          rintro e w3 ⟨rfl, b3⟩
          have B3 := hid_of (FRow.bel B2.out b3 (Nat.le_refl _))
          clear b3
          go_wp2_with fail
          go_ret
          exact ⟨ret_b (by simp), B3.out⟩
end Go.Proofs.Ytdcnkdkhanmklaa.Same
