/- DequePieces, walked. -/
import Derived.Test.YtdmjfmojacnbeaaEnds
import Derived.Deep.RegionHeld3
namespace Go.Proofs.Ytdmjfmojacnbeaa.Pieces
open Go.RowKit
open Go.Proofs.Ytdmjfmojacnbeaa.Base
open Go.Proofs.Ytdmjfmojacnbeaa.Held
open Go.Proofs.Ytdmjfmojacnbeaa.Lay
open Go.Proofs.Ytdmjfmojacnbeaa.Free
open Go.Proofs.Ytdmjfmojacnbeaa.Place
open Go.Proofs.Ytdmjfmojacnbeaa.Piece
open Go.Proofs.Ytdmjfmojacnbeaa.Same
open Go.Proofs.Ytdmjfmojacnbeaa.Awake
open Go.Proofs.Ytdmjfmojacnbeaa.Ends
set_option linter.unusedVariables false
set_option linter.unusedSimpArgs false
theorem pc_some {n p q : Nat} {x y : Int} (hx : ends n x = p) (hy : min (ends n y) ((n : Int) - 1) = q) (h : p ≤ q) : pcF n x y = p ∧ pcT n x y = q + 1 := by
  unfold pcF pcT
  rw [hx, hy, if_pos (by omega), if_pos (by omega)]
  omega
theorem pc_none {n : Nat} {x y : Int} (h : min (ends n y) ((n : Int) - 1) < max (ends n x) 0) : pcF n x y = 0 ∧ pcT n x y = 0 := by
  unfold pcF pcT
  rw [if_neg (by omega), if_neg (by omega)]
  exact ⟨rfl, rfl⟩
theorem piece_none {l : List El} {x y : Int} (h : min (ends l.length y) ((l.length : Int) - 1) < max (ends l.length x) 0) : pieceS l x y = [] := by
  unfold pieceS
  rw [(pc_none h).1, (pc_none h).2]
  simp
theorem ends_pos (n : Nat) {x : Int} (h : 0 ≤ x) : ends n x = x := by unfold ends; rw [if_neg (by omega)]
theorem ends_neg (n : Nat) {x : Int} (h : x < 0) : ends n x = x + n := by unfold ends; rw [if_pos h]
theorem piece_all (l : List El) : pieceS l 0 (-1) = l := by
  by_cases h : l = []
  · subst h; rfl
  · have hp : 0 < l.length := List.length_pos_iff.2 h
    obtain ⟨e1, e2⟩ := pc_some (n := l.length) (p := 0) (q := l.length - 1) (x := 0) (y := -1) (by rw [ends_pos _ (by omega)]; rfl) (by rw [ends_neg _ (by omega)]; omega) (by omega)
    unfold pieceS
    rw [e1, e2]
    rw [List.drop_zero, List.take_of_length_le (by omega)]
theorem piece_to {l : List El} {p : Nat} (h : p < l.length) : pieceS l 0 (p : Int) = l.take (p + 1) := by
  obtain ⟨e1, e2⟩ := pc_some (n := l.length) (p := 0) (q := p) (x := 0) (y := (p : Int)) (by rw [ends_pos _ (by omega)]; rfl) (by rw [ends_pos _ (by omega)]; omega) (by omega)
  unfold pieceS
  rw [e1, e2]
  simp
theorem piece_from {l : List El} {p : Nat} (h : p < l.length) : pieceS l ((p : Int) + 1) (-1) = l.drop (p + 1) := by
  by_cases q : p + 1 < l.length
  · obtain ⟨e1, e2⟩ := pc_some (n := l.length) (p := p + 1) (q := l.length - 1) (x := (p : Int) + 1) (y := -1) (by rw [ends_pos _ (by omega)]; simp) (by rw [ends_neg _ (by omega)]; omega) (by omega)
    unfold pieceS
    rw [e1, e2, List.take_of_length_le (by simp; omega)]
  · rw [piece_none (by rw [ends_neg _ (by omega), ends_pos _ (by omega)]; omega), List.drop_eq_nil_of_le (by omega)]
theorem piece_one {l : List El} {p : Nat} (h : p < l.length) : pieceS l (p : Int) (p : Int) = [l[p]] := by
  obtain ⟨e1, e2⟩ := pc_some (n := l.length) (p := p) (q := p) (x := (p : Int)) (y := (p : Int)) (by rw [ends_pos _ (by omega)]) (by rw [ends_pos _ (by omega)]; omega) (by omega)
  unfold pieceS
  rw [e1, e2, List.drop_eq_getElem_cons h, show p + 1 - p = 1 by omega]
  rfl
theorem piece_rest {l : List El} {p : Nat} {y : Int} (h : p < l.length) (hy : (l.length : Int) - 1 ≤ y) : pieceS l (p : Int) y = l.drop p := by
  obtain ⟨e1, e2⟩ := pc_some (n := l.length) (p := p) (q := l.length - 1) (x := (p : Int)) (y := y) (by rw [ends_pos _ (by omega)]) (by rw [ends_pos _ (by omega)]; omega) (by omega)
  unfold pieceS
  rw [e1, e2, List.take_of_length_le (by simp; omega)]
theorem at_in {l : List El} {p : Nat} {i : Int} (h : p < l.length) (hi : i = p ∨ i = (p : Int) - l.length) : atS l i = (l[p], true) := by
  have : idx l.length i = some p := by
    unfold idx
    rcases hi with rfl | rfl
    · rw [if_neg (by omega), if_pos (by omega)]; simp
    · rw [if_pos (by omega), if_neg (by omega)]; congr 1; omega
  unfold atS
  rw [this]
  simp [List.getElem?_eq_getElem h]
set_option maxHeartbeats 4000000 in
set_option maxRecDepth 100000 in
/-- the first part: what is asked of every list -/
theorem pieces_call {w : World} {u : Value} {l : List El} (h : SL (fun k => k < w.heap.size) w u l) (A : Int) (hA : -9223372036854775808 ≤ A ∧ A ≤ 9223372036854775807) (hb : l.length * 8 ≤ 140737488351232) :
    Calls Try.prog 6 #[u, .int .i64 A] w fun e w' => e = .returned (.bool true) ∧ Below w.heap.size w w' := by
  obtain ⟨B, hB⟩ : ∃ B, B = w.heap.size := ⟨_, rfl⟩
  rw [← hB] at h ⊢
  have HB := hid_of hB
  have HO := hid_of (of_call h (by omega))
  have HU := hid_of (fun (W : World) (b : Below B w W) => SL.later h b)
  obtain ⟨a1, c1, rfl, hc1, hr1⟩ := h
  have HR := hid_of hr1
  have b1 : l.length ≤ 17592186043904 := by omega
  have p1 := piece_all l
  have p2 : pieceS l (l.length : Int) 1099511627776 = [] := piece_none (by rw [ends_pos _ (by omega), ends_pos _ (by omega)]; omega)
  have p3 : pieceS l (-9223372036854775808) (-9223372036854775808) = [] := piece_none (by rw [ends_neg _ (by omega)]; omega)
  have HP := hid_of (And.intro p1 (And.intro p2 p3))
  obtain ⟨L, HL⟩ : ∃ L, Hid (L = l.length) := ⟨_, hid_of rfl⟩
  rw [← HL.out] at HO b1 hc1 ⊢
  clear hB p1 p2 p3 hr1 hb
  go_enter Try.func6, Try.ntmps6
  go_wp2_with fail
  refine HO.out.mono ?_
  rintro e w1 ⟨b, rfl, q1, k1⟩
  have E1 : Hid (At B b l w w1) := At.of (w1 := w) q1 (Below.refl _ _) k1 (by rw [HB.out]; exact Nat.le_refl _)
  have HA := hid_of (awake_call w1)
  clear q1 k1
  go_wp2_with fail
  refine HA.out.mono ?_
  rintro e w2 ⟨rfl, k2⟩
  have E2 := hid_of (E1.out.read k2)
  have HS := hid_of (slice_call E2.out.ud 0 (-1) (by omega) (by omega) (by omega) (by omega) (by rw [← HL.out]; omega))
  rw [HP.out.1] at HS
  clear k2
  go_wp2_with fail
  refine HS.out.mono ?_
  rintro e w3 ⟨v3, rfl, n3, k3⟩
  have E3 := hid_of (E2.out.read k3)
  have HSm := hid_of (same_call n3.sl (HU.out _ E3.out.bl) rfl (by rw [← HL.out]; omega))
  rw [← HL.out] at HSm
  clear n3 k3
  go_wp2_with fail
  refine HSm.out.mono ?_
  rintro e w4 ⟨rfl, m4, rfl⟩
  have E4 := hid_of (E3.out.drewN m4)
  have HLi := hid_of (list_call E4.out.ud (by rw [← HL.out]; omega))
  go_wp2_with fail
  refine HLi.out.mono ?_
  rintro e w5 ⟨v5, rfl, n5, k5⟩
  have E5 := hid_of (E4.out.read k5)
  have HSm5 := hid_of (same_call n5.sl (HU.out _ E5.out.bl) rfl (by rw [← HL.out]; omega))
  rw [← HL.out] at HSm5
  clear n5 k5
  go_wp2_with fail
  refine HSm5.out.mono ?_
  rintro e w6 ⟨rfl, m6, rfl⟩
  have E6 := hid_of (E5.out.drewN m6)
  have HS6 := hid_of (slice_call E6.out.ud (l.length : Int) 1099511627776 (by omega) (by omega) (by rw [← HL.out]; omega) (by omega) (by rw [← HL.out]; omega))
  rw [HP.out.2.1, ← HL.out] at HS6
  go_wp2_with fail
  refine HS6.out.mono ?_
  rintro e w7 ⟨v7, rfl, n7, k7⟩
  obtain ⟨a7, c7, rfl, _, _⟩ := NR.shape n7
  rw [List.length_nil]
  have E7 := hid_of (E6.out.read k7)
  have HS7 := hid_of (slice_call E7.out.ud (-9223372036854775808) (-9223372036854775808) (by omega) (by omega) (by omega) (by omega) (by rw [← HL.out]; omega))
  rw [HP.out.2.2] at HS7
  clear n7 k7
  go_wp2_with fail
  refine HS7.out.mono ?_
  rintro e w8 ⟨v8, rfl, n8, k8⟩
  obtain ⟨a8, c8, rfl, _, _⟩ := NR.shape n8
  rw [List.length_nil]
  have E8 := hid_of (E7.out.read k8)
  clear n8 k8
  by_cases h0 : L = 0
  · subst h0
    go_wp2_with fail
    go_ret
    exact ⟨rfl, E8.out.bl⟩
  · have g0 : ((L : Int) == 0) = false := by rw [beq_eq_false_iff_ne]; omega
    by_cases h1 : A < 0
    · go_wp2_with fail
      go_ret
      exact ⟨rfl, E8.out.bl⟩
    · obtain ⟨p, hp⟩ : ∃ p : Nat, A % (L : Int) = (p : Int) := ⟨(A % (L : Int)).toNat, by have := Int.emod_nonneg A (b := (L : Int)) (by omega); omega⟩
      have hpL : p < L := by have := Int.emod_lt_of_pos A (b := (L : Int)) (by omega); omega
      have hpl : p < l.length := by rw [← HL.out]; exact hpL
      have HP2 := hid_of (And.intro (piece_to hpl) (And.intro (piece_from hpl) (And.intro (piece_one hpl) (piece_rest (y := 9223372036854775807) hpl (by rw [← HL.out]; omega)))))
      have HS8 := hid_of (slice_call E8.out.ud 0 (p : Int) (by omega) (by omega) (by omega) (by omega) (by rw [← HL.out]; omega))
      rw [HP2.out.1] at HS8
      have h2 : 0 ≤ A := by omega
      have h3 : A ≤ 9223372036854775807 := hA.2
      clear hA
      go_wp2_with fail
      simp only [hp]
      clear hp h2 h3 h1
      refine HS8.out.mono ?_
      rintro e w9 ⟨v9, rfl, n9, k9⟩
      have E9 := hid_of (E8.out.read k9)
      have HS9 := hid_of (slice_call E9.out.ud ((p : Int) + 1) (-1) (by omega) (by omega) (by omega) (by omega) (by rw [← HL.out]; omega))
      rw [HP2.out.2.1] at HS9
      have N9 := hid_of n9
      clear n9 k9
      go_wp2_with fail
      refine HS9.out.mono ?_
      rintro e w10 ⟨v10, rfl, n10, k10⟩
      have E10 := hid_of (E9.out.read k10)
      have HJ := hid_of (joined_call (N9.out.sl.below k10) n10.sl (by simp; rw [← HL.out]; omega))
      rw [List.take_append_drop] at HJ
      clear n10 k10
      go_wp2_with fail
      refine HJ.out.mono ?_
      rintro e w11 ⟨v11, rfl, n11, k11⟩
      have E11 := hid_of (E10.out.read k11)
      have HSm11 := hid_of (same_call n11.sl (HU.out _ E11.out.bl) rfl (by rw [← HL.out]; omega))
      rw [← HL.out] at HSm11
      clear n11 k11
      go_wp2_with fail
      refine HSm11.out.mono ?_
      rintro e w12 ⟨rfl, m12, rfl⟩
      have E12 := hid_of (E11.out.drewN m12)
      have HA12 := hid_of (at_call E12.out.ud ((p : Int) - (L : Int)) (by omega))
      rw [at_in hpl (.inr (by rw [HL.out]))] at HA12
      go_wp2_with fail
      refine HA12.out.mono ?_
      rintro e w13 ⟨rfl, k13⟩
      have E13 := hid_of (E12.out.read k13)
      have HA13 := hid_of (at_call E13.out.ud (p : Int) (by omega))
      rw [at_in hpl (.inl rfl)] at HA13
      clear k13
      go_wp2_with fail
      refine HA13.out.mono ?_
      rintro e w14 ⟨rfl, k14⟩
      have E14 := hid_of (E13.out.read k14)
      clear k14
      obtain ⟨g0, o0, rfl, hg0, hcl⟩ := Rd.get HR.out (by omega)
      have hcc : ∀ W, Below B w W → W.cell? ⟨g0, o0 + p, none⟩ = some (V l[p]) := fun W bW => (World.cell?_of_block (w := w) (bW.block g0 hg0)).trans (hcl p _ (List.getElem?_eq_getElem hpl))
      have HC := hid_of hcc
      have HCL := hid_of (And.intro hg0 hcl)
      have HSl := hid_of (fun (W : World) (k : Below w14.heap.size w14 W) => (show Calls Try.prog 40 #[ptr b, .int .i64 (p : Int), .int .i64 (p : Int)] W fun e w' => ∃ v, e = .returned v ∧ NR W.heap.size w' v [l[p]] ∧ Below W.heap.size W w' by
        have := slice_call (E14.out.read k).ud (p : Int) (p : Int) (by omega) (by omega) (by omega) (by omega) (by rw [← HL.out]; omega)
        rw [HP2.out.2.2.1] at this
        exact this))
      generalize l[p] = x at *
      have cx := HC.out _ E14.out.bl
      clear hcc hcl hg0
      have HSl2 := hid_of (fun (W : World) (k : Below w14.heap.size w14 W) => (show Calls Try.prog 40 #[ptr b, .int .i64 (p : Int), .int .i64 (p : Int)] W fun e w' => ∃ v, e = .returned v ∧ (NR W.heap.size w' v [x] ∧ Below W.heap.size W w' ∧ At B b l w w') ∧ w'.cell? ⟨g0, o0 + p, none⟩ = some (V x) ∧ (w'.alloc (.cells #[V x] 3)).cell? ⟨g0, o0 + p, none⟩ = some (V x) from
        (HSl.out W k).mono fun e w' ⟨v, h1, h2, h3⟩ => ⟨v, h1, ⟨h2, h3, (E14.out.read k).read h3⟩, HC.out _ ((E14.out.read k).read h3).bl, HC.out _ (((E14.out.read k).read h3).alloc _).bl⟩))
      have c14 : (w14.drew.alloc (.cells #[V x] 3)).cell? ⟨g0, o0 + p, none⟩ = some (V x) := HC.out _ ((E14.out.drewN 1).alloc _).bl
      have KA := hid_of (fun (W W' : World) (v : Value) (n : NR W.heap.size W' v [x]) => same_call (n.sl.below ((Below.refl _ W').alloc (Nat.le_refl _) (.cells #[V x] 3))) (sl_new W' [x]) rfl (by simp))
      have KB := hid_of (fun (W W' : World) (v : Value) (n : NR (W.alloc (.cells #[V x] 3)).heap.size W' v [x]) (k : Below (W.alloc (.cells #[V x] 3)).heap.size (W.alloc (.cells #[V x] 3)) W') => same_call n.sl ((sl_new W [x]).below k) rfl (by simp))
      have HSA := hid_of (HSl2.out w14.drew (bel_drewN w14 1))
      have HSB := hid_of (HSl2.out (w14.drew.alloc (.cells #[V x] 3)) ((Below.refl _ w14).drew.alloc (Nat.le_refl _) _))
      clear HSl HSl2
      go_wp2_with fail
      go_region_held3 (fun W => W.cell? ⟨g0, o0 + p, none⟩ = some (V x)) (first | exact cx | exact c14 | exact c15 | exact c15a | exact c16) (first
        | (go_at_call 40; refine HSA.out.mono ?_; rintro e w15 ⟨v15, rfl, n15, c15, c15a⟩; have N15A := hid_of n15; clear n15 HSA HSB)
        | (go_at_call 40; refine HSB.out.mono ?_; rintro e w15 ⟨v15, rfl, n15, c15, c15a⟩; have N15B := hid_of n15; clear n15 HSA HSB)
        | (go_at_call 13; refine (KA.out _ _ _ N15A.out.1).mono ?_; rintro e w16 ⟨rfl, m16, hw16⟩; have c16 : w16.cell? ⟨g0, o0 + p, none⟩ = some (V x) := by { rw [hw16]; exact c15a }; have H16 : Hid (At B b l w w16) := by { rw [hw16]; exact (N15A.out.2.2.alloc _).drewN m16 }; clear hw16)
        | (go_at_call 13; refine (KB.out _ _ _ N15B.out.1 N15B.out.2.1).mono ?_; rintro e w16 ⟨rfl, m16, hw16⟩; have c16 : w16.cell? ⟨g0, o0 + p, none⟩ = some (V x) := by { rw [hw16]; exact c15 }; have H16 : Hid (At B b l w w16) := by { rw [hw16]; exact N15B.out.2.2.drewN m16 }; clear hw16))
      all_goals
        have HTr := hid_of (trim_call H16.out.ud (p : Int) 9223372036854775807 (by omega) (by omega) (by omega) (by omega))
        rw [HP2.out.2.2.2] at HTr
        clear c15 c15a c16 c14 cx
        go_wp2_with fail
        refine HTr.out.mono ?_
        rintro e w17 ⟨rfl, q17, f17⟩
        have E17 := hid_of (H16.out.turn q17 f17)
        have hcut := cut_lo (some ⟨g0, o0, none⟩) L c1 p (p : Int) rfl (by omega)
        have HLi17 := hid_of (fun m => list_call (E17.out.drewN m).ud (by simp; rw [← HL.out]; omega))
        have HSm17 := hid_of (fun (m : Nat) (W : World) (v : Value) (n : NR (w17.drewN m).heap.size W v (l.drop p)) (k : Below (w17.drewN m).heap.size (w17.drewN m) W) => (show Calls Try.prog 13 #[v, .slice (ca (some ⟨g0, o0, none⟩) c1 p) (L - p) (c1 - p)] W fun e w' => e = .returned (.bool true) ∧ Hid (Below B w w') by
          have hbW := ((E17.out.drewN m).read k).bl
          have hrd : Rd (fun _ => True) W (ca (some ⟨g0, o0, none⟩) c1 p) (l.drop p) := by
            have r0 : Rd (fun k => k < B) w (some ⟨g0, o0, none⟩) l := HR.out
            exact ((r0.keep (w' := W) fun k _ hk => hbW.block k hk).drop (by rw [← HL.out]; exact hc1) p).mono fun _ _ _ => trivial
          have hlen : (l.drop p).length = L - p := by rw [List.length_drop, ← HL.out]
          have := same_call n.sl (show SL (fun _ => True) W (.slice (ca (some ⟨g0, o0, none⟩) c1 p) (L - p) (c1 - p)) (l.drop p) from ⟨_, _, by rw [hlen], by rw [hlen]; omega, hrd⟩) rfl (by rw [hlen]; omega)
          exact this.mono fun e w' ⟨h1, m', h2⟩ => ⟨h1, by rw [h2]; exact hbW.trans ((bel_drewN W m').mono ((E17.out.drewN m).read k).sz)⟩))
        clear q17 f17
        go_wp2_with fail
        go_region_with (first
          | (go_at_call 14; refine (HLi17.out 1).mono ?_; rintro e w18 ⟨v18, rfl, n18, k18⟩; have N18 := hid_of (And.intro n18 k18); clear n18 k18)
          | (go_at_call 13; refine (HSm17.out 1 _ _ N18.out.1 N18.out.2).mono ?_; rintro e w19 ⟨rfl, H19⟩))
        all_goals
          go_wp2_with fail
          go_ret
          exact ⟨rfl, H19.out⟩
end Go.Proofs.Ytdmjfmojacnbeaa.Pieces
