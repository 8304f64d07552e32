/- The document's SameEffects, of effects that are the same. -/
import Derived.Test.YtpnigkjmofhmbabGreatEDecM
import Derived.Test.YtpnigkjmofhmbabGreatRSame
namespace Go.Proofs.YtpnigkjmofhmbabGreat.FSame
open Go.RowKit Go.Maps
open Go.Proofs.YtpnigkjmofhmbabGreat.ValueMath (Vl chk small sm enc sm_self)
open Go.Proofs.YtpnigkjmofhmbabGreat.Base (mk mk_list mk_size hid_of)
open Go.Proofs.YtpnigkjmofhmbabGreat.Turn
open Go.Proofs.YtpnigkjmofhmbabGreat.Vals
open Go.Proofs.YtpnigkjmofhmbabGreat.SBase
open Go.Proofs.YtpnigkjmofhmbabGreat.SFind (alb)
open Go.Proofs.YtpnigkjmofhmbabGreat.EAll
set_option linter.unusedVariables false
set_option linter.unusedSimpArgs false
set_option maxHeartbeats 8000000 in
set_option maxRecDepth 100000 in
theorem same_call {w : World} {u v : Value} {l : List Ef} (h : FSl w u l) (h' : FSl w v l) (hn : ∀ f ∈ l, Fit f.val) (hl : l.length < 549755813888) :
    Calls Tryz.prog 9 #[u, v] w fun r w' => r = .returned (.bool true) ∧ Below w.heap.size w w' := by
  obtain ⟨a, c, rfl, hc, h⟩ := h
  obtain ⟨a', c', rfl, hc', h'⟩ := h'
  have HR := hid_of h
  have HR' := hid_of h'
  have HNi := hid_of hn
  clear h h' hn
  go_enter Tryz.func9, Tryz.ntmps9
  go_wp2_with fail
  go_loopg [5] l.length (fun g si wx => ∃ (k : Nat), k ≤ l.length ∧ l.length ≤ k + g ∧ si = .int .i64 (k : Int) ∧ Hid (Below w.heap.size w wx))
  case atStart => exact ⟨0, by omega, by omega, rfl, hid_of (Below.refl _ _)⟩
  case round =>
    obtain ⟨k, hk, hg, rfl, HN⟩ := hrel
    by_cases hlt : k < l.length
    · obtain ⟨g', rfl⟩ : ∃ g', gk = g' + 1 := ⟨gk - 1, by omega⟩
      obtain ⟨gb, o, rfl, hcs⟩ : ∃ g o, a = some ⟨g, o, none⟩ ∧ ∀ k (h : k < l.length), FAt w g (o + k * 8) (l[k]'h) := by
        rcases HR.out with h | h
        · rw [h] at hlt; simp at hlt
        · exact h
      obtain ⟨gb', o', rfl, hcs'⟩ : ∃ g o, a' = some ⟨g, o, none⟩ ∧ ∀ k (h : k < l.length), FAt w g (o + k * 8) (l[k]'h) := by
        rcases HR'.out with h | h
        · rw [h] at hlt; simp at hlt
        · exact h
      obtain ⟨a1, n1, c1, a2, n2, c2, a3, n3, c3, k2, T, h0, h1, h2, h3, h4, h5, h6, h7, hv⟩ := (hcs k hlt).below HN.out
      obtain ⟨b1, m1, d1, b2, m2, d2, b3, m3, d3, j2, U, i0, i1, i2, i3, i4, i5, i6, i7, hv'⟩ := (hcs' k hlt).below HN.out
      have e2 : IntKind.i64.wrap ((k : Int) + 1) = (k : Int) + 1 := IntWalk.i64_in _ (by omega)
      have g2 : (k : Int) < (l.length : Int) := by omega
      have HS : Hid (∀ W, Below wr.heap.size wr W → Calls Tryz.prog 27 #[.agg #[.int .i64 k2, .string T, .slice a1 n1 c1, .slice a2 n2 c2, .slice a3 n3 c3], .agg #[.int .i64 j2, .string U, .slice b1 m1 d1, .slice b2 m2 d2, .slice b3 m3 d3]] W fun e w' => e = .returned (.bool true) ∧ Below W.heap.size W w') := hid_of fun W hW => by
        have := RSame.rsame_call (hv.below hW) (hv'.below hW) (HNi.out _ (List.getElem_mem hlt)) (HNi.out _ (List.getElem_mem hlt))
        rw [sm_self] at this
        exact this
      have hkl : k * 8 + 8 ≤ 1099511627776 * 8 := by omega
      obtain ⟨f, hf⟩ : ∃ f, l[k]'hlt = f := ⟨_, rfl⟩
      rw [hf] at h0 h1 h7 i0 i1 i7
      generalize f.kind = kd at *
      generalize f.due = d at *
      generalize mk f.key = K at *
      clear hcs hcs' hv hv' hf
      have kk : (K.toList == K.toList) = true := by simp
      have kd1 : (kd == kd) = true := by simp
      have dd1 : (d == d) = true := by simp
      go_wp2_with fail
      go_region_held3 (fun V => V.cell? ⟨gb, o + k * 8, none⟩ = some (.int .i64 kd) ∧ V.cell? ⟨gb, o + k * 8 + 1, none⟩ = some (.string K) ∧ V.cell? ⟨gb, o + k * 8 + 2, none⟩ = some (.int .i64 k2) ∧ V.cell? ⟨gb, o + k * 8 + 3, none⟩ = some (.string T) ∧ V.cell? ⟨gb, o + k * 8 + 4, none⟩ = some (.slice a1 n1 c1) ∧ V.cell? ⟨gb, o + k * 8 + 5, none⟩ = some (.slice a2 n2 c2) ∧ V.cell? ⟨gb, o + k * 8 + 6, none⟩ = some (.slice a3 n3 c3) ∧ V.cell? ⟨gb, o + k * 8 + 7, none⟩ = some (.int .i64 d) ∧ V.cell? ⟨gb', o' + k * 8, none⟩ = some (.int .i64 kd) ∧ V.cell? ⟨gb', o' + k * 8 + 1, none⟩ = some (.string K) ∧ V.cell? ⟨gb', o' + k * 8 + 2, none⟩ = some (.int .i64 j2) ∧ V.cell? ⟨gb', o' + k * 8 + 3, none⟩ = some (.string U) ∧ V.cell? ⟨gb', o' + k * 8 + 4, none⟩ = some (.slice b1 m1 d1) ∧ V.cell? ⟨gb', o' + k * 8 + 5, none⟩ = some (.slice b2 m2 d2) ∧ V.cell? ⟨gb', o' + k * 8 + 6, none⟩ = some (.slice b3 m3 d3) ∧ V.cell? ⟨gb', o' + k * 8 + 7, none⟩ = some (.int .i64 d)) (first | exact ⟨h0, h1, h2, h3, h4, h5, h6, h7, i0, i1, i2, i3, i4, i5, i6, i7⟩ | exact ⟨FRow.cell_on QB.out h0, FRow.cell_on QB.out h1, FRow.cell_on QB.out h2, FRow.cell_on QB.out h3, FRow.cell_on QB.out h4, FRow.cell_on QB.out h5, FRow.cell_on QB.out h6, FRow.cell_on QB.out h7, FRow.cell_on QB.out i0, FRow.cell_on QB.out i1, FRow.cell_on QB.out i2, FRow.cell_on QB.out i3, FRow.cell_on QB.out i4, FRow.cell_on QB.out i5, FRow.cell_on QB.out i6, FRow.cell_on QB.out i7⟩) (first
        | (go_at_call 27; refine (HS.out _ (by first | exact Below.refl _ _ | exact (Below.refl _ _).drew)).mono ?_; rintro r w3 ⟨rfl, hb3⟩; have QB := hid_of (show Below wr.heap.size wr w3 by first | exact hb3 | exact (Below.refl wr.heap.size wr).drew.trans hb3); clear hb3))
      have HN2 := hid_of (HN.out.trans (QB.out.mono HN.out.size))
      go_wp2_with fail
      go_roundg g'
      case measure => omega
      case rel => exact ⟨k + 1, by omega, by omega, by rw [show ((k + 1 : Nat) : Int) = (k : Int) + 1 from by omega], HN2⟩
    · obtain rfl : k = l.length := by omega
      have gi : ¬ (l.length : Int) < (l.length : Int) := by omega
      go_wp2_with fail
      go_ret
      exact ⟨rfl, HN.out⟩
end Go.Proofs.YtpnigkjmofhmbabGreat.FSame
