/- The law RankParts. -/
import Derived.Test.YtighoelipihifaaGreatDoorPartsMath
import Derived.Test.YtighoelipihifaaGreatDoorLawOf
import Derived.BigQuiet
import Derived.Test.YtighoelipihifaaGreatDoorLast2
import Derived.Deep.RegionHeld3
namespace Go.Proofs.YtighoelipihifaaGreatDoor.Parts1
open Go.RowKit Go.Maps Go.Sort
open Go.Proofs.YtighoelipihifaaGreatDoor.MapMath
open Go.Proofs.YtighoelipihifaaGreatDoor.RankMath
open Go.Proofs.YtighoelipihifaaGreatDoor.RankMath2
open Go.Proofs.YtighoelipihifaaGreatDoor.RankMath3
open Go.Proofs.YtighoelipihifaaGreatDoor.PartsMath
open Go.Proofs.YtighoelipihifaaGreatDoor.Base
open Go.Proofs.YtighoelipihifaaGreatDoor.Rank1
open Go.Proofs.YtighoelipihifaaGreatDoor.Run
open Go.Proofs.YtighoelipihifaaGreatDoor.Bound
open Go.Proofs.YtighoelipihifaaGreatDoor.Scores
open Go.Proofs.YtighoelipihifaaGreatDoor.Of
open Go.Proofs.YtighoelipihifaaGreatDoor.Twin
open Go.Proofs.YtighoelipihifaaGreatDoor.Ref1
open Go.Proofs.YtighoelipihifaaGreatDoor.Sure
open Go.Proofs.YtighoelipihifaaGreatDoor.LawOf (eqPn)
open Go.Proofs.YtighoelipihifaaGreatDoor.Parse (Has)
set_option linter.unusedVariables false
set_option linter.unusedSimpArgs false

abbrev bO (b : Bnd) : Obj := .cells #[.int .i64 b.inf, .bool b.opn, .int .i64 b.score, .string (mk b.name)] 39
theorem cells_of {W : World} {g : Nat} {b : Bnd} (h : W.heap[g]? = some (bO b)) : W.cell? ⟨g, 0, none⟩ = some (.int .i64 b.inf) ∧ W.cell? ⟨g, 1, none⟩ = some (.bool b.opn) ∧ W.cell? ⟨g, 2, none⟩ = some (.int .i64 b.score) ∧ W.cell? ⟨g, 3, none⟩ = some (.string (mk b.name)) :=
  ⟨Lib.cell_of_heap h 0, Lib.cell_of_heap h 1, Lib.cell_of_heap h 2, Lib.cell_of_heap h 3⟩
theorem run_fs {L : EL} {w w' : World} {e : Ending} {V : World} {n : Nat} (hn : L.length = n) (h : RunE L w e w') (hV : Below V.heap.size V w) : ∃ a c, e = .returned (.slice a n c) ∧ Hid (Below V.heap.size V w' ∧ FS w' (.slice a n c) L ∧ Below w.heap.size w w') := by
  obtain ⟨v, rfl, o, b⟩ := h
  obtain ⟨a, c, rfl, hc, h'⟩ := id (fs_row o)
  rw [hn]
  exact ⟨a, c, rfl, hid_of ⟨hV.trans (b.mono hV.size), by have := fs_row o; rw [hn] at this; exact this, b⟩⟩
theorem cells_p {W : World} {g : Nat} (h : W.heap[g]? = some (bO pInf)) : W.cell? ⟨g, 0, none⟩ = some (.int .i64 1) ∧ W.cell? ⟨g, 1, none⟩ = some (.bool false) ∧ W.cell? ⟨g, 2, none⟩ = some (.int .i64 0) ∧ W.cell? ⟨g, 3, none⟩ = some (.string ⟨#[]⟩) :=
  ⟨Lib.cell_of_heap h 0, Lib.cell_of_heap h 1, Lib.cell_of_heap h 2, Lib.cell_of_heap h 3⟩
theorem cells_m {W : World} {g : Nat} (h : W.heap[g]? = some (bO mInf)) : W.cell? ⟨g, 0, none⟩ = some (.int .i64 (-1)) ∧ W.cell? ⟨g, 1, none⟩ = some (.bool false) ∧ W.cell? ⟨g, 2, none⟩ = some (.int .i64 0) ∧ W.cell? ⟨g, 3, none⟩ = some (.string ⟨#[]⟩) :=
  ⟨Lib.cell_of_heap h 0, Lib.cell_of_heap h 1, Lib.cell_of_heap h 2, Lib.cell_of_heap h 3⟩
def Boxes (p q r s : Nat) (lo hi : Bnd) (W : World) : Prop := W.heap[p]? = some (bO lo) ∧ W.heap[q]? = some (bO hi) ∧ W.heap[r]? = some (bO pInf) ∧ W.heap[s]? = some (bO mInf)
theorem box8 {p q r s : Nat} {lo hi : Bnd} {W : World} (h : Boxes p q r s lo hi W) : W.cell? ⟨p, 0, none⟩ = some (.int .i64 lo.inf) ∧ W.cell? ⟨p, 1, none⟩ = some (.bool lo.opn) ∧ W.cell? ⟨p, 2, none⟩ = some (.int .i64 lo.score) ∧ W.cell? ⟨p, 3, none⟩ = some (.string (mk lo.name)) ∧ W.cell? ⟨r, 0, none⟩ = some (.int .i64 1) ∧ W.cell? ⟨r, 1, none⟩ = some (.bool false) ∧ W.cell? ⟨r, 2, none⟩ = some (.int .i64 0) ∧ W.cell? ⟨r, 3, none⟩ = some (.string ⟨#[]⟩) := by
  obtain ⟨k0, k1, k2, k3⟩ := cells_of h.1
  obtain ⟨m0, m1, m2, m3⟩ := cells_p h.2.2.1
  exact ⟨k0, k1, k2, k3, m0, m1, m2, m3⟩
set_option maxHeartbeats 8000000 in
set_option maxRecDepth 100000 in
theorem parts_call (v : Value) (l : EL) (lo hi : Bnd) (w : World) (h : FS w v l) (hn : l.length ≤ big) (hk : ∀ p ∈ l, p.1.length ≤ 140737488355328) (hh : Has w) : Calls Tryz.prog 6 #[v, bV lo, bV hi] w fun e w' => e = .returned (.bool true) ∧ Below w.heap.size w w' := by
  have HF := hid_of h
  have HH := hid_of hh
  have HK := hid_of hk
  obtain ⟨W0, hW0⟩ : ∃ W, W = (w.alloc (bO lo)).alloc (bO hi) := ⟨_, rfl⟩
  have b0 : Below w.heap.size w W0 := by rw [hW0]; exact Base.bel (bnew w _) (bnew _ _) (Nat.le_refl _)
  have HX : Hid (∀ W, Below W0.heap.size W0 W → W.heap[w.heap.size]? = some (bO lo) ∧ W.heap[w.heap.size + 1]? = some (bO hi)) := hid_of fun W hW => by
    have e0 : W0.heap[w.heap.size]? = some (bO lo) := by
      rw [hW0]
      have := heap_alloc_new w (bO lo)
      rw [heap_alloc_old (w.alloc (bO lo)) (bO hi) (by simp)]
      exact this
    have e1 : W0.heap[w.heap.size + 1]? = some (bO hi) := by
      rw [hW0]
      have := heap_alloc_new (w.alloc (bO lo)) (bO hi)
      simpa using this
    exact ⟨(hW.block _ (lt_of e0)).trans e0, (hW.block _ (lt_of e1)).trans e1⟩
  have H1 := hid_of (twin_call v l W0 (h.below b0) hn)
  have HQ := hid_of eqP
  have HB0 := hid_of b0
  have HW0 := hid_of hW0
  obtain ⟨a, c, rfl, hc, h'⟩ := h
  clear h' hk hh b0 hW0
  unfold bV
  go_enter Tryz.func6, Tryz.ntmps6
  go_wp2_with fail
  rw [← HW0.out]
  refine H1.out.mono ?_
  rintro e w1 ⟨v1, rfl, o1, b1⟩
  have H2 := hid_of (of_call v1 l w1 (fs_row o1) hn HK.out)
  have B1 := hid_of (Base.bel HB0.out b1 (Nat.le_refl _))
  have C1 := hid_of b1
  clear o1 b1 H1
  go_wp2_with fail
  refine H2.out.mono ?_
  rintro e w2 ⟨b2, hcase⟩
  have B2 := hid_of (Base.bel B1.out b2 (Nat.le_refl _))
  have C2 := hid_of (Base.bel C1.out b2 (Nat.le_refl _))
  have H3 := hid_of (rof_call (.slice a l.length c) l w2 (HF.out.below B2.out) hn)
  clear b2 H2 C1 B1
  rcases hcase with ⟨hA, rfl⟩ | ⟨hA, hU, rfl⟩ | ⟨hA, hU, b, rfl, rk⟩
  · go_wp2_with fail
    refine H3.out.mono ?_
    rintro e w3 ⟨b3, ⟨_, rfl⟩ | ⟨hA2, _⟩ | ⟨hA2, _⟩⟩
    rotate_left
    · exact absurd hA2 hA
    · exact absurd hA2 hA
    have B3 := hid_of (Base.bel B2.out b3 (Nat.le_refl _))
    have H5 := hid_of (sure_call w3 (HH.out.later B3.out))
    clear b3 H3
    go_wp2_with fail
    refine H5.out.mono ?_
    rintro e w5 hw5
    obtain ⟨rfl, b5⟩ := hw5
    have B5 := hid_of (Base.bel B3.out b5 (Nat.le_refl _))
    clear b5
    go_wp2_with fail
    go_ret
    exact ⟨rfl, B5.out⟩
  · go_wp2_with fail
    refine H3.out.mono ?_
    rintro e w3 ⟨b3, ⟨hA2, _⟩ | ⟨_, _, rfl⟩ | ⟨_, hU2, _⟩⟩
    · exact absurd hA hA2
    rotate_left
    · exact absurd hU2 hU
    have B3 := hid_of (Base.bel B2.out b3 (Nat.le_refl _))
    have H5 := hid_of (sure_call w3 (HH.out.later B3.out))
    clear b3 H3
    go_wp2_with fail
    refine H5.out.mono ?_
    rintro e w5 hw5
    obtain ⟨rfl, b5⟩ := hw5
    have B5 := hid_of (Base.bel B3.out b5 (Nat.le_refl _))
    clear b5
    go_wp2_with fail
    go_ret
    exact ⟨rfl, B5.out⟩
  · have qP := HQ.out b
    clear H3
    have HS := hid_of (srtL_srt hU)
    have HL : Hid ((srtL l).length ≤ big) := hid_of (by rw [srtL_len]; exact hn)
    generalize srtL l = L at *
    obtain ⟨V, hV⟩ : ∃ V, V = (w2.alloc (.cells #[.int .i64 1, .bool false, .int .i64 0, .string ⟨#[]⟩] 39)).alloc (.cells #[.int .i64 (-1), .bool false, .int .i64 0, .string ⟨#[]⟩] 39) := ⟨_, rfl⟩
    have bV2 : Below w2.heap.size w2 V := by rw [hV]; exact Base.bel (bnew w2 _) (bnew _ _) (Nat.le_refl _)
    obtain ⟨x0, x1⟩ := HX.out w2 C2.out
    have l0 : w.heap.size < w2.heap.size := lt_of x0
    have l1 : w.heap.size + 1 < w2.heap.size := lt_of x1
    have p0 : w2.cell? ⟨w.heap.size, 0, none⟩ = some (.int .i64 lo.inf) := Lib.cell_of_heap x0 0
    have p1 : w2.cell? ⟨w.heap.size, 1, none⟩ = some (.bool lo.opn) := Lib.cell_of_heap x0 1
    have p2 : w2.cell? ⟨w.heap.size, 2, none⟩ = some (.int .i64 lo.score) := Lib.cell_of_heap x0 2
    have p3 : w2.cell? ⟨w.heap.size, 3, none⟩ = some (.string (mk lo.name)) := Lib.cell_of_heap x0 3
    have q0 : w2.cell? ⟨w.heap.size + 1, 0, none⟩ = some (.int .i64 hi.inf) := Lib.cell_of_heap x1 0
    have q1 : w2.cell? ⟨w.heap.size + 1, 1, none⟩ = some (.bool hi.opn) := Lib.cell_of_heap x1 1
    have q2 : w2.cell? ⟨w.heap.size + 1, 2, none⟩ = some (.int .i64 hi.score) := Lib.cell_of_heap x1 2
    have q3 : w2.cell? ⟨w.heap.size + 1, 3, none⟩ = some (.string (mk hi.name)) := Lib.cell_of_heap x1 3
    have y0 : V.heap[w2.heap.size]? = some (bO pInf) := by
      rw [hV]
      show ((w2.alloc (bO pInf)).alloc (bO mInf)).heap[w2.heap.size]? = some (bO pInf)
      rw [heap_alloc_old (w2.alloc (bO pInf)) (bO mInf) (by simp)]
      exact heap_alloc_new w2 (bO pInf)
    have y1 : V.heap[w2.heap.size + 1]? = some (bO mInf) := by
      rw [hV]
      show ((w2.alloc (bO pInf)).alloc (bO mInf)).heap[w2.heap.size + 1]? = some (bO mInf)
      have := heap_alloc_new (w2.alloc (bO pInf)) (bO mInf)
      simpa using this
    have HBX : Hid (∀ W, Below V.heap.size V W → Boxes w.heap.size (w.heap.size + 1) w2.heap.size (w2.heap.size + 1) lo hi W) := hid_of fun W hW =>
      ⟨(hW.block _ (Nat.lt_of_lt_of_le (lt_of x0) bV2.size)).trans ((bV2.block _ (lt_of x0)).trans x0), (hW.block _ (Nat.lt_of_lt_of_le (lt_of x1) bV2.size)).trans ((bV2.block _ (lt_of x1)).trans x1), (hW.block _ (lt_of y0)).trans y0, (hW.block _ (lt_of y1)).trans y1⟩
    have R2 := hid_of (rk.below bV2)
    obtain ⟨LL, hLL⟩ : ∃ n, n = L.length := ⟨_, rfl⟩
    obtain ⟨A, hAA⟩ : ∃ n, n = cntL L lo := ⟨_, rfl⟩
    obtain ⟨U, hUU⟩ : ∃ n, n = cntU L hi := ⟨_, rfl⟩
    have kA : A ≤ LL := by rw [hAA, hLL]; exact cntL_le _ _
    have kU : U ≤ LL := by rw [hUU, hLL]; exact cntU_le _ _
    have kL : LL ≤ 9000000000000 := by rw [hLL]; exact HL.out
    have HLi : Hid (∀ W, Below V.heap.size V W → Calls Tryz.prog 13 #[ptr b] W fun e w' => ∃ a c, e = .returned (.slice a LL c) ∧ Hid (Below V.heap.size V w' ∧ FS w' (.slice a LL c) L ∧ Below W.heap.size W w')) := hid_of fun W hW => (list_call (R2.out.below hW) HL.out).mono fun e w' h => run_fs hLL.symm h hW
    have HSm : Hid (∀ W, Below V.heap.size V W → Calls Tryz.prog 18 #[ptr b, bV lo, bV hi, .bool false, .int .i64 0, .int .i64 (-1)] W fun e w' => ∃ a c, e = .returned (.slice a (U - A) c) ∧ Hid (Below V.heap.size V w' ∧ FS w' (.slice a (U - A) c) (midS L lo hi) ∧ Below W.heap.size W w')) := hid_of fun W hW => (scores_call (R2.out.below hW) lo hi false 0 (-1) HL.out).mono fun e w' h => run_fs (by rw [hUU, hAA]; exact mid_len HS.out lo hi) h hW
    have HSb : Hid (∀ W, Below V.heap.size V W → Calls Tryz.prog 18 #[ptr b, bV lo, bV hi, .bool true, .int .i64 0, .int .i64 (-1)] W fun e w' => ∃ a c, e = .returned (.slice a (U - A) c) ∧ Hid (Below V.heap.size V w' ∧ FS w' (.slice a (U - A) c) (midS L lo hi).reverse ∧ Below W.heap.size W w')) := hid_of fun W hW => (scores_call (R2.out.below hW) lo hi true 0 (-1) HL.out).mono fun e w' h => by rw [back_eq] at h; exact run_fs (by rw [hUU, hAA, List.length_reverse]; exact mid_len HS.out lo hi) h hW
    have HSf : Hid (∀ W, Below V.heap.size V W → Calls Tryz.prog 18 #[ptr b, bV lo, .agg #[.int .i64 1, .bool false, .int .i64 0, .string ⟨#[]⟩], .bool false, .int .i64 0, .int .i64 (-1)] W fun e w' => ∃ a c, e = .returned (.slice a (LL - A) c) ∧ Hid (Below V.heap.size V w' ∧ FS w' (.slice a (LL - A) c) (midS L lo pInf) ∧ Below W.heap.size W w')) := hid_of fun W hW => (scores_call (R2.out.below hW) lo pInf false 0 (-1) HL.out).mono fun e w' h => run_fs (by rw [hLL, hAA]; exact from_len HS.out lo) h hW
    have HSu : Hid (∀ W, Below V.heap.size V W → Calls Tryz.prog 18 #[ptr b, .agg #[.int .i64 (-1), .bool false, .int .i64 0, .string ⟨#[]⟩], bV hi, .bool false, .int .i64 0, .int .i64 (-1)] W fun e w' => ∃ a c, e = .returned (.slice a U c) ∧ Hid (Below V.heap.size V w' ∧ FS w' (.slice a U c) (midS L mInf hi) ∧ Below W.heap.size W w')) := hid_of fun W hW => (scores_call (R2.out.below hW) mInf hi false 0 (-1) HL.out).mono fun e w' h => run_fs (by rw [hUU]; exact upto_len HS.out hi) h hW
    have HSa : Hid (∀ W, Below V.heap.size V W → Calls Tryz.prog 18 #[ptr b, .agg #[.int .i64 (-1), .bool false, .int .i64 0, .string ⟨#[]⟩], .agg #[.int .i64 1, .bool false, .int .i64 0, .string ⟨#[]⟩], .bool false, .int .i64 0, .int .i64 (-1)] W fun e w' => ∃ a c, e = .returned (.slice a LL c) ∧ Hid (Below V.heap.size V w' ∧ FS w' (.slice a LL c) L ∧ Below W.heap.size W w')) := hid_of fun W hW => (scores_call (R2.out.below hW) mInf pInf false 0 (-1) HL.out).mono fun e w' h => by rw [all_eq HS.out] at h; exact run_fs hLL.symm h hW
    have HM : Hid ((midS L lo hi).length = U - A ∧ A = cntL L lo ∧ LL = L.length) := hid_of ⟨by rw [hUU, hAA]; exact mid_len HS.out lo hi, hAA, hLL⟩
    have HV := hid_of hV
    have BV := hid_of (Base.bel B2.out bV2 (Nat.le_refl _))
    clear rk bV2 hV x0 x1 y0 y1 hLL hAA hUU R2
    unfold ptr bV at *
    have hw1 : IntKind.i64.wrap ((LL : Int) - ((LL - A : Nat) : Int)) = (A : Int) := by rw [show (LL : Int) - ((LL - A : Nat) : Int) = (A : Int) by omega]; exact IntWalk.i64_in _ (by omega)
    have hmx : ((U - A : Nat) : Int) = max 0 ((U : Int) - (A : Int)) := by omega
    generalize hNF : LL - A = NF at *
    generalize hNM : U - A = NM at *
    have HN := hid_of (And.intro hNF hNM)
    clear hNF hNM
    go_wp2_with fail
    rw [← HV.out]
    refine (HSm.out V (Below.refl _ V)).mono ?_
    rintro e w3 ⟨a3, c3, rfl, F3⟩
    obtain ⟨k0, k1, k2, k3⟩ := HBX.out w3 F3.out.1
    obtain ⟨a00, a01, a02, a03⟩ := cells_of k0
    obtain ⟨a20, a21, a22, a23⟩ := cells_p k2
    clear k0 k1 k2 k3 p0 p1 p2 p3 q0 q1 q2 q3 l0 l1
    go_wp2_with fail
    go_region_held3 (fun Z => Z.cell? ⟨w.heap.size, 0, none⟩ = some (.int .i64 lo.inf) ∧ Z.cell? ⟨w.heap.size, 1, none⟩ = some (.bool lo.opn) ∧ Z.cell? ⟨w.heap.size, 2, none⟩ = some (.int .i64 lo.score) ∧ Z.cell? ⟨w.heap.size, 3, none⟩ = some (.string (mk lo.name)) ∧ Z.cell? ⟨w2.heap.size, 0, none⟩ = some (.int .i64 1) ∧ Z.cell? ⟨w2.heap.size, 1, none⟩ = some (.bool false) ∧ Z.cell? ⟨w2.heap.size, 2, none⟩ = some (.int .i64 0) ∧ Z.cell? ⟨w2.heap.size, 3, none⟩ = some (.string ⟨#[]⟩)) (first | exact hB4 | exact hB5 | exact ⟨a00, a01, a02, a03, a20, a21, a22, a23⟩) (first
      | (go_at_call 13; refine (HLi.out _ ?_).mono ?_; (first | exact F5.out.1 | exact F3.out.1.drew); rintro e w4 ⟨a4, c4, rfl, F4⟩; have hB4 := box8 (HBX.out w4 F4.out.1))
      | (go_at_call 18; refine (HSf.out _ ?_).mono ?_; (first | exact F4.out.1 | exact F3.out.1.drew); rintro e w5 ⟨a5, c5, rfl, F5⟩; have hB5 := box8 (HBX.out w5 F5.out.1)))
    obtain ⟨k0, k1, k2, k3⟩ := HBX.out w5 F5.out.1
    obtain ⟨b10, b11, b12, b13⟩ := cells_of k1
    obtain ⟨b30, b31, b32, b33⟩ := cells_m k3
    clear k0 k1 k2 k3 hB4 hB5 a00 a01 a02 a03 a20 a21 a22 a23
    go_wp2_with fail
    refine (HSu.out w5 F5.out.1).mono ?_
    rintro e w6 ⟨a6, c6, rfl, F6⟩
    obtain ⟨k0, k1, k2, k3⟩ := HBX.out w6 F6.out.1
    obtain ⟨c20, c21, c22, c23⟩ := cells_p k2
    obtain ⟨c30, c31, c32, c33⟩ := cells_m k3
    clear k0 k1 k2 k3 b10 b11 b12 b13 b30 b31 b32 b33
    go_wp2_with fail
    refine (HSa.out w6 F6.out.1).mono ?_
    rintro e w7 ⟨a7, c7, rfl, F7⟩
    clear hmx c20 c21 c22 c23 c30 c31 c32 c33
    go_wp2_with fail
    refine (HLi.out w7 F7.out.1).mono ?_
    rintro e w8 ⟨a8, c8, rfl, F8⟩
    have H9 := hid_of (same_call _ _ L L w8 (F7.out.2.1.below F8.out.2.2) F8.out.2.1 HL.out HL.out)
    rw [decide_eq_true rfl] at H9
    go_wp2_with fail
    refine H9.out.mono ?_
    rintro e w9 hw9
    obtain ⟨rfl, b9⟩ := hw9
    have C9 : Hid (Below V.heap.size V w9) := hid_of (F8.out.1.trans (b9.mono F8.out.1.size))
    have D9 := hid_of b9
    clear b9 H9
    obtain ⟨k0, k1, k2, k3⟩ := HBX.out w9 C9.out
    obtain ⟨d00, d01, d02, d03⟩ := cells_of k0
    obtain ⟨d10, d11, d12, d13⟩ := cells_of k1
    clear k0 k1 k2 k3
    go_wp2_with fail
    refine (HSb.out w9 C9.out).mono ?_
    rintro e w10 ⟨a10, c10, rfl, F10⟩
    clear d00 d01 d02 d03 d10 d11 d12 d13
    go_wp2_with fail
    have FM : Hid (FS w10 (.slice a3 NM c3) (midS L lo hi)) := hid_of ((((((((F3.out.2.1.below (Below.refl _ w3).drew).below F4.out.2.2).below F5.out.2.2).below F6.out.2.2).below F7.out.2.2).below F8.out.2.2).below D9.out).below F10.out.2.2)
    have HG : Hid (∀ k (h : k < (midS L lo hi).length) (h2 : cntL L lo + k < L.length), (midS L lo hi)[k]'h = L[cntL L lo + k]'h2) := hid_of fun k h h2 => mid_get HS.out lo hi h
    have HP : Hid (∀ k, k < (midS L lo hi).length → cntL L lo + k < L.length) := hid_of fun k h => mid_at HS.out lo hi h
    have HRv : Hid (∀ k (h : k < (midS L lo hi).length) (h2 : (midS L lo hi).length - 1 - k < (midS L lo hi).reverse.length), (midS L lo hi).reverse[(midS L lo hi).length - 1 - k]'h2 = (midS L lo hi)[k]'h) := hid_of fun k h h2 => back_get _ h
    obtain ⟨M, hMd⟩ : ∃ M, M = midS L lo hi := ⟨_, rfl⟩
    rw [← hMd] at FM HG HP HRv HM F10
    clear hMd
    have HBV3 := hid_of (Base.bel B2.out (show Below w2.heap.size w2 V by rw [HV.out]; exact Base.bel (bnew w2 _) (bnew _ _) (Nat.le_refl _)) (Nat.le_refl _))
    have kN : NM ≤ LL := by have := HN.out; omega
    go_loopg [17] NM (fun g si wx => ∃ k : Nat, k ≤ NM ∧ NM ≤ k + g ∧ si = .int .i64 (k : Int) ∧ Hid (FS wx (.slice a3 NM c3) M ∧ FS wx (.slice a10 NM c10) M.reverse ∧ Below V.heap.size V wx))
    case atStart => exact ⟨0, by omega, by omega, rfl, hid_of ⟨FM.out, F10.out.2.1, F10.out.1⟩⟩
    case round =>
      obtain ⟨k, hk, hg, rfl, HI⟩ := hrel
      by_cases hlt : k < NM
      · obtain ⟨g', rfl⟩ : ∃ g', gk = g' + 1 := ⟨gk - 1, by omega⟩
        have hkM : k < M.length := by have := HM.out; omega
        have hkR : M.length - 1 - k < M.reverse.length := by rw [List.length_reverse]; omega
        have hkL : cntL L lo + k < L.length := HP.out k hkM
        obtain ⟨ga, oa, ea, hata⟩ := HI.out.1.at hkM
        obtain ⟨gb, ob, eb, hatb⟩ := HI.out.2.1.at hkR
        obtain ⟨c0, c1⟩ := hata k hkM
        obtain ⟨d0, d1⟩ := hatb _ hkR
        rw [HRv.out k hkM hkR] at d0 d1
        obtain ⟨J, hJ⟩ : ∃ J, J = M.length - 1 - k := ⟨_, rfl⟩
        obtain ⟨P, hP⟩ : ∃ P, P = A + k := ⟨_, rfl⟩
        rw [← hJ] at d0 d1
        have hJ2 : J + 1 + k = NM := by have := HM.out; omega
        have hPL : P < LL := by have := HM.out; omega
        have HAT : Hid (∀ (W : World) a c, FS W (.slice a LL c) L → ∃ g o, a = some ⟨g, o, none⟩ ∧ W.cell? ⟨g, o + P * 2, none⟩ = some (.string (mk (M[k]'hkM).1)) ∧ W.cell? ⟨g, o + P * 2 + 1, none⟩ = some (.int .i64 (M[k]'hkM).2)) := hid_of fun W a c h => by
          have hm := HM.out
          obtain ⟨g, o, e, hh⟩ := h.at hkL
          have := hh _ hkL
          rw [← HG.out k hkM hkL, ← hm.2.1, ← hP] at this
          exact ⟨g, o, e, this⟩
        have hne := Neq.neqE (M[k]'hkM) (M[k]'hkM)
        rw [decide_eq_false (by simp)] at hne
        clear hata hatb hkL hkR
        subst ea eb
        generalize mk (M[k]'hkM).1 = X at *
        generalize (M[k]'hkM).2 = xx at *
        have g1 : (k : Int) < (NM : Int) := by omega
        have g2 : (J : Int) < (NM : Int) := by omega
        have g3 : (P : Int) < (LL : Int) := by omega
        have e1 : IntKind.i64.wrap ((NM : Int) - 1) = (NM : Int) - 1 := IntWalk.i64_in _ (by omega)
        have e2 : IntKind.i64.wrap ((NM : Int) - 1 - (k : Int)) = (J : Int) := by rw [IntWalk.i64_in _ (by omega)]; omega
        have e3 : IntKind.i64.wrap ((A : Int) + (k : Int)) = (P : Int) := by rw [IntWalk.i64_in _ (by omega)]; omega
        have e4 : IntKind.i64.wrap ((k : Int) + 1) = (k : Int) + 1 := IntWalk.i64_in _ (by omega)
        have e5 : (NM : Int) - 1 - (k : Int) = (J : Int) := by omega
        have e6 : (A : Int) + (k : Int) = (P : Int) := by omega
        have e7 : IntKind.i64.wrap (J : Int) = (J : Int) := IntWalk.i64_in _ (by omega)
        have e8 : IntKind.i64.wrap (P : Int) = (P : Int) := IntWalk.i64_in _ (by omega)
        have HKp : Hid (∀ W, Below wr.drew.heap.size wr.drew W → W.cell? ⟨ga, oa + k * 2, none⟩ = some (.string X) ∧ W.cell? ⟨ga, oa + k * 2 + 1, none⟩ = some (.int .i64 xx) ∧ W.cell? ⟨gb, ob + J * 2, none⟩ = some (.string X) ∧ W.cell? ⟨gb, ob + J * 2 + 1, none⟩ = some (.int .i64 xx)) := hid_of fun W hW => ⟨cell_on hW c0, cell_on hW c1, cell_on hW d0, cell_on hW d1⟩
        have HJ := hid_of (And.intro hJ2 hP)
        clear hJ hP hJ2
        go_wp2_with fail
        refine Last.start (fun Z : World => Z.cell? ⟨ga, oa + k * 2, none⟩ = some (.string X) ∧ Z.cell? ⟨ga, oa + k * 2 + 1, none⟩ = some (.int .i64 xx) ∧ Z.cell? ⟨gb, ob + J * 2, none⟩ = some (.string X) ∧ Z.cell? ⟨gb, ob + J * 2 + 1, none⟩ = some (.int .i64 xx)) 26 (by kernel_rfl) ?_
        have hs0 : (fun Z : World => Z.cell? ⟨ga, oa + k * 2, none⟩ = some (.string X) ∧ Z.cell? ⟨ga, oa + k * 2 + 1, none⟩ = some (.int .i64 xx) ∧ Z.cell? ⟨gb, ob + J * 2, none⟩ = some (.string X) ∧ Z.cell? ⟨gb, ob + J * 2 + 1, none⟩ = some (.int .i64 xx)) wr.drew := ⟨c0, c1, d0, d1⟩
        refine Last.take2 16 (i := 0) (v := .slice (some ⟨gb, ob, none⟩) NM c10) rfl (by kernel_rfl) (by kernel_rfl) (by kernel_rfl) (by kernel_rfl) (by kernel_rfl) (fun _ _ _ h => h) (Or.inl ⟨by rfl, ?_⟩) (by assumption) ?_
        · intro W hSW
          obtain ⟨s0, s1, s2, s3⟩ := hSW
          go_simp
        simp only [Act.put, List.setIfInBounds_toArray, List.set_cons_zero, List.set_cons_succ]
        refine Last.take2 16 (i := 1) (v := .slice (some ⟨gb, ob, none⟩) NM c10) rfl (by kernel_rfl) (by kernel_rfl) (by kernel_rfl) (by kernel_rfl) (by kernel_rfl) (fun _ _ _ h => h) (Or.inl ⟨by rfl, ?_⟩) (by assumption) ?_
        · intro W hSW
          obtain ⟨s0, s1, s2, s3⟩ := hSW
          go_simp
        simp only [Act.put, List.setIfInBounds_toArray, List.set_cons_zero, List.set_cons_succ]
        refine Last.take2 16 (i := 2) (v := .int .i64 (NM : Int)) rfl (by kernel_rfl) (by kernel_rfl) (by kernel_rfl) (by kernel_rfl) (by kernel_rfl) (fun _ _ _ h => h) (Or.inl ⟨by rfl, ?_⟩) (by assumption) ?_
        · intro W hSW
          obtain ⟨s0, s1, s2, s3⟩ := hSW
          go_simp
        simp only [Act.put, List.setIfInBounds_toArray, List.set_cons_zero, List.set_cons_succ]
        refine Last.take2 16 (i := 3) (v := .int .i64 ((NM : Int) - 1)) rfl (by kernel_rfl) (by kernel_rfl) (by kernel_rfl) (by kernel_rfl) (by kernel_rfl) (fun _ _ _ h => h) (Or.inl ⟨by rfl, ?_⟩) (by assumption) ?_
        · intro W hSW
          obtain ⟨s0, s1, s2, s3⟩ := hSW
          go_simp
        simp only [Act.put, List.setIfInBounds_toArray, List.set_cons_zero, List.set_cons_succ]
        refine Last.take2 16 (i := 4) (v := .int .i64 (k : Int)) rfl (by kernel_rfl) (by kernel_rfl) (by kernel_rfl) (by kernel_rfl) (by kernel_rfl) (fun _ _ _ h => h) (Or.inl ⟨by rfl, ?_⟩) (by assumption) ?_
        · intro W hSW
          obtain ⟨s0, s1, s2, s3⟩ := hSW
          go_simp
        simp only [Act.put, List.setIfInBounds_toArray, List.set_cons_zero, List.set_cons_succ]
        refine Last.take2 16 (i := 5) (v := .int .i64 (J : Int)) rfl (by kernel_rfl) (by kernel_rfl) (by kernel_rfl) (by kernel_rfl) (by kernel_rfl) (fun _ _ _ h => h) (Or.inl ⟨by rfl, ?_⟩) (by assumption) ?_
        · intro W hSW
          obtain ⟨s0, s1, s2, s3⟩ := hSW
          go_simp
        simp only [Act.put, List.setIfInBounds_toArray, List.set_cons_zero, List.set_cons_succ]
        refine Last.take2 16 (i := 6) (v := .pointer (some ⟨gb, ob + J * 2, none⟩)) rfl (by kernel_rfl) (by kernel_rfl) (by kernel_rfl) (by kernel_rfl) (by kernel_rfl) (fun _ _ _ h => h) (Or.inl ⟨by rfl, ?_⟩) (by assumption) ?_
        · intro W hSW
          obtain ⟨s0, s1, s2, s3⟩ := hSW
          go_simp
        simp only [Act.put, List.setIfInBounds_toArray, List.set_cons_zero, List.set_cons_succ]
        refine Last.take2 16 (i := 7) (v := .agg #[.string X, .int .i64 xx]) rfl (by kernel_rfl) (by kernel_rfl) (by kernel_rfl) (by kernel_rfl) (by kernel_rfl) (fun _ _ _ h => h) (Or.inl ⟨by rfl, ?_⟩) (by assumption) ?_
        · intro W hSW
          obtain ⟨s0, s1, s2, s3⟩ := hSW
          go_simp
        simp only [Act.put, List.setIfInBounds_toArray, List.set_cons_zero, List.set_cons_succ]
        refine Last.take2 16 (i := 8) (v := .slice (some ⟨ga, oa, none⟩) NM c3) rfl (by kernel_rfl) (by kernel_rfl) (by kernel_rfl) (by kernel_rfl) (by kernel_rfl) (fun _ _ _ h => h) (Or.inl ⟨by rfl, ?_⟩) (by assumption) ?_
        · intro W hSW
          obtain ⟨s0, s1, s2, s3⟩ := hSW
          go_simp
        simp only [Act.put, List.setIfInBounds_toArray, List.set_cons_zero, List.set_cons_succ]
        refine Last.take2 16 (i := 9) (v := .int .i64 (k : Int)) rfl (by kernel_rfl) (by kernel_rfl) (by kernel_rfl) (by kernel_rfl) (by kernel_rfl) (fun _ _ _ h => h) (Or.inl ⟨by rfl, ?_⟩) (by assumption) ?_
        · intro W hSW
          obtain ⟨s0, s1, s2, s3⟩ := hSW
          go_simp
        simp only [Act.put, List.setIfInBounds_toArray, List.set_cons_zero, List.set_cons_succ]
        refine Last.take2 16 (i := 10) (v := .pointer (some ⟨ga, oa + k * 2, none⟩)) rfl (by kernel_rfl) (by kernel_rfl) (by kernel_rfl) (by kernel_rfl) (by kernel_rfl) (fun _ _ _ h => h) (Or.inl ⟨by rfl, ?_⟩) (by assumption) ?_
        · intro W hSW
          obtain ⟨s0, s1, s2, s3⟩ := hSW
          go_simp
        simp only [Act.put, List.setIfInBounds_toArray, List.set_cons_zero, List.set_cons_succ]
        refine Last.take2 16 (i := 11) (v := .agg #[.string X, .int .i64 xx]) rfl (by kernel_rfl) (by kernel_rfl) (by kernel_rfl) (by kernel_rfl) (by kernel_rfl) (fun _ _ _ h => h) (Or.inl ⟨by rfl, ?_⟩) (by assumption) ?_
        · intro W hSW
          obtain ⟨s0, s1, s2, s3⟩ := hSW
          go_simp
        simp only [Act.put, List.setIfInBounds_toArray, List.set_cons_zero, List.set_cons_succ]
        refine Last.take2 16 (i := 12) (v := .bool false) rfl (by kernel_rfl) (by kernel_rfl) (by kernel_rfl) (by kernel_rfl) (by kernel_rfl) (fun _ _ _ h => h) (Or.inl ⟨by rfl, ?_⟩) (by assumption) ?_
        · intro W hSW
          obtain ⟨s0, s1, s2, s3⟩ := hSW
          go_simp
        simp only [Act.put, List.setIfInBounds_toArray, List.set_cons_zero, List.set_cons_succ]
        refine Last.take2 16 (i := 13) (v := .bool false) rfl (by kernel_rfl) (by kernel_rfl) (by kernel_rfl) (by kernel_rfl) (by kernel_rfl) (fun _ _ _ h => h) (Or.inl ⟨by rfl, ?_⟩) (by assumption) ?_
        · intro W hSW
          obtain ⟨s0, s1, s2, s3⟩ := hSW
          go_simp
        simp only [Act.put, List.setIfInBounds_toArray, List.set_cons_zero, List.set_cons_succ]
        refine Last.take2 16 (i := 14) (v := .slice (some ⟨ga, oa, none⟩) NM c3) rfl (by kernel_rfl) (by kernel_rfl) (by kernel_rfl) (by kernel_rfl) (by kernel_rfl) (fun _ _ _ h => h) (Or.inl ⟨by kernel_rfl, ?_⟩) (by assumption) ?_
        · intro W hSW
          obtain ⟨s0, s1, s2, s3⟩ := hSW
          go_simp
        simp only [Act.put, List.setIfInBounds_toArray, List.set_cons_zero, List.set_cons_succ]
        refine Last.take2 16 (i := 15) (v := .int .i64 (k : Int)) rfl (by kernel_rfl) (by kernel_rfl) (by kernel_rfl) (by kernel_rfl) (by kernel_rfl) (fun _ _ _ h => h) (Or.inl ⟨by kernel_rfl, ?_⟩) (by assumption) ?_
        · intro W hSW
          obtain ⟨s0, s1, s2, s3⟩ := hSW
          go_simp
        simp only [Act.put, List.setIfInBounds_toArray, List.set_cons_zero, List.set_cons_succ]
        refine Last.take2 16 (i := 16) (v := .pointer (some ⟨ga, oa + k * 2, none⟩)) rfl (by kernel_rfl) (by kernel_rfl) (by kernel_rfl) (by kernel_rfl) (by kernel_rfl) (fun _ _ _ h => h) (Or.inl ⟨by kernel_rfl, ?_⟩) (by assumption) ?_
        · intro W hSW
          obtain ⟨s0, s1, s2, s3⟩ := hSW
          go_simp
        simp only [Act.put, List.setIfInBounds_toArray, List.set_cons_zero, List.set_cons_succ]
        refine Last.take2 16 (i := 17) (v := .agg #[.string X, .int .i64 xx]) rfl (by kernel_rfl) (by kernel_rfl) (by kernel_rfl) (by kernel_rfl) (by kernel_rfl) (fun _ _ _ h => h) (Or.inl ⟨by kernel_rfl, ?_⟩) (by assumption) ?_
        · intro W hSW
          obtain ⟨s0, s1, s2, s3⟩ := hSW
          go_simp
        simp only [Act.put, List.setIfInBounds_toArray, List.set_cons_zero, List.set_cons_succ]
        refine Last.take2 16 (i := 18) (v := .pointer (some ⟨b, 0, none⟩)) rfl (by kernel_rfl) (by kernel_rfl) (by kernel_rfl) (by kernel_rfl) (by kernel_rfl) (fun _ _ _ h => h) (Or.inl ⟨by kernel_rfl, ?_⟩) (by assumption) ?_
        · intro W hSW
          obtain ⟨s0, s1, s2, s3⟩ := hSW
          go_simp
        simp only [Act.put, List.setIfInBounds_toArray, List.set_cons_zero, List.set_cons_succ]
        refine Last.take2 16 (i := 20) (v := .int .i64 (A : Int)) rfl (by kernel_rfl) (by kernel_rfl) (by kernel_rfl) (by kernel_rfl) (by kernel_rfl) (fun _ _ _ h => h) (Or.inl ⟨by kernel_rfl, ?_⟩) (by assumption) ?_
        · intro W hSW
          obtain ⟨s0, s1, s2, s3⟩ := hSW
          go_simp
        simp only [Act.put, List.setIfInBounds_toArray, List.set_cons_zero, List.set_cons_succ]
        refine Last.take2 16 (i := 21) (v := .int .i64 (k : Int)) rfl (by kernel_rfl) (by kernel_rfl) (by kernel_rfl) (by kernel_rfl) (by kernel_rfl) (fun _ _ _ h => h) (Or.inl ⟨by kernel_rfl, ?_⟩) (by assumption) ?_
        · intro W hSW
          obtain ⟨s0, s1, s2, s3⟩ := hSW
          go_simp
        simp only [Act.put, List.setIfInBounds_toArray, List.set_cons_zero, List.set_cons_succ]
        refine Last.take2 16 (i := 22) (v := .int .i64 (P : Int)) rfl (by kernel_rfl) (by kernel_rfl) (by kernel_rfl) (by kernel_rfl) (by kernel_rfl) (fun _ _ _ h => h) (Or.inl ⟨by kernel_rfl, ?_⟩) (by assumption) ?_
        · intro W hSW
          obtain ⟨s0, s1, s2, s3⟩ := hSW
          go_simp
        simp only [Act.put, List.setIfInBounds_toArray, List.set_cons_zero, List.set_cons_succ]
        refine Last.one (i := 19) rfl (by kernel_rfl) ?_
        intro K' hK0
        have hK := hid_of hK0
        clear hK0
        go_simp
        refine (HLi.out _ HI.out.2.2.drew).mono ?_
        rintro e w11 ⟨a11, c11, rfl, F11⟩
        obtain ⟨gc, oc, ec, h0, h1⟩ := HAT.out w11 a11 c11 F11.out.2.1
        subst ec
        have hs1 : (fun Z : World => Z.cell? ⟨ga, oa + k * 2, none⟩ = some (.string X) ∧ Z.cell? ⟨ga, oa + k * 2 + 1, none⟩ = some (.int .i64 xx) ∧ Z.cell? ⟨gb, ob + J * 2, none⟩ = some (.string X) ∧ Z.cell? ⟨gb, ob + J * 2 + 1, none⟩ = some (.int .i64 xx)) w11 := HKp.out w11 F11.out.2.2
        refine hK.out _ _ (fun _ => hs1) ?_
        clear hK K'
        try simp only [Act.put, List.setIfInBounds_toArray, List.set_cons_zero, List.set_cons_succ]
        refine Last.one (i := 23) rfl (by kernel_rfl) ?_
        intro K' hK0
        have hK := hid_of hK0
        clear hK0
        go_simp
        refine hK.out _ _ (fun _ => hs1) ?_
        clear hK K'
        try simp only [Act.put, List.setIfInBounds_toArray, List.set_cons_zero, List.set_cons_succ]
        refine Last.one (i := 24) rfl (by kernel_rfl) ?_
        intro K' hK0
        have hK := hid_of hK0
        clear hK0
        go_simp
        refine hK.out _ _ (fun _ => hs1) ?_
        clear hK K'
        try simp only [Act.put, List.setIfInBounds_toArray, List.set_cons_zero, List.set_cons_succ]
        refine Last.one (i := 25) rfl (by kernel_rfl) ?_
        intro K' hK0
        have hK := hid_of hK0
        clear hK0
        go_simp
        refine hK.out _ _ (fun _ => hs1) ?_
        clear hK K'
        try simp only [Act.put, List.setIfInBounds_toArray, List.set_cons_zero, List.set_cons_succ]
        refine Last.one (i := 26) rfl (by kernel_rfl) ?_
        intro K' hK0
        have hK := hid_of hK0
        clear hK0
        go_simp
        refine hK.out _ _ (fun h => absurd rfl h) ?_
        clear hK K'
        try simp only [Act.put, List.setIfInBounds_toArray, List.set_cons_zero, List.set_cons_succ]
        refine Last.fin (by kernel_rfl) ?_ _
        go_wp2_with fail
        go_roundg g'
        case measure => omega
        case rel => exact ⟨k + 1, by omega, by omega, by rw [show ((k + 1 : Nat) : Int) = (k : Int) + 1 from by omega], hid_of ⟨(HI.out.1.below (Below.refl _ _).drew).below F11.out.2.2, (HI.out.2.1.below (Below.refl _ _).drew).below F11.out.2.2, F11.out.1⟩⟩
      · have gi : ¬ (k : Int) < (NM : Int) := by omega
        have C := hid_of (Base.bel HBV3.out HI.out.2.2 (Nat.le_refl _))
        have H12 := hid_of (sure_call _ (HH.out.later C.out))
        go_wp2_with fail
        refine H12.out.mono ?_
        rintro e w12 hw12
        obtain ⟨rfl, b12⟩ := hw12
        have C12 := hid_of (Base.bel C.out b12 (Nat.le_refl _))
        clear b12
        go_wp2_with fail
        go_ret
        exact ⟨rfl, C12.out⟩
end Go.Proofs.YtighoelipihifaaGreatDoor.Parts1
