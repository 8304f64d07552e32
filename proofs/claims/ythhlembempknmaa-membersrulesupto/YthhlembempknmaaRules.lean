/- MembersRules, walked. -/
import Derived.Test.YthhlembempknmaaRulesM
namespace Go.Proofs.Ythhlembempknmaa.Rules
open Go.RowKit Go.Sort
open Go.Proofs.Ythhlembempknmaa.SetMath
open Go.Proofs.Ythhlembempknmaa.Base
open Go.Proofs.Ythhlembempknmaa.Small
open Go.Proofs.Ythhlembempknmaa.Of
open Go.Proofs.Ythhlembempknmaa.Code
open Go.Proofs.Ythhlembempknmaa.After
open Go.Proofs.Ythhlembempknmaa.Awake
open Go.Proofs.Ythhlembempknmaa.Sets
open Go.Proofs.Ythhlembempknmaa.RulesM
set_option linter.unusedVariables false
set_option linter.unusedSimpArgs false
theorem SL.lt2 {G : Nat → Prop} {w : World} {a : Option Addr} {n c : Nat} {l : List El} (h : SL G w (.slice a n c) l) : ∀ W, On w W → ∀ (j : Nat) (x : El), l[j]? = some x → ∃ g o, a = some ⟨g, o, none⟩ ∧ W.cell? ⟨g, o + j, none⟩ = some (.string (mk x)) := fun W o j x hj => by
  obtain ⟨a', c', e, hc, r⟩ := h
  cases e
  obtain ⟨g, off, rfl, hg, q⟩ := Rd.get r.lt (by have := (List.getElem?_eq_some_iff.1 hj).1; omega)
  exact ⟨g, off, rfl, (World.cell?_of_block (w := w) (o.bl.block g hg.2)).trans (q j x hj)⟩
set_option maxHeartbeats 8000000 in
set_option maxRecDepth 100000 in
theorem rules_call {G1 G2 G3 : Nat → Prop} {w : World} {x y z : Value} {a b c : List El} (h1 : SL G1 w x a) (h2 : SL G2 w y b) (h3 : SL G3 w z c) (hb : a.length + b.length + c.length ≤ 1048576) :
    Calls Try.prog 7 #[x, y, z] w fun e w' => e = .returned (.bool true) ∧ Below w.heap.size w w' := by
  have HA := hid_of (awake_call w)
  have SA := hid_of fun (W : World) (o : On w W) => SL.any (h1.below o.bl)
  have SB := hid_of fun (W : World) (o : On w W) => SL.any (h2.below o.bl)
  have SC := hid_of fun (W : World) (o : On w W) => SL.any (h3.below o.bl)
  have HB := hid_of hb
  obtain ⟨xa, xc, rfl, _⟩ := SL.len h1
  obtain ⟨ya, yc, rfl, _⟩ := SL.len h2
  obtain ⟨za, zc, rfl, _⟩ := SL.len h3
  have RD := hid_of (Rules.SL.lt2 h2)
  obtain ⟨na, HNA⟩ : ∃ n, Hid (n = a.length) := ⟨_, hid_of rfl⟩
  obtain ⟨nb, HNB⟩ : ∃ n, Hid (n = b.length) := ⟨_, hid_of rfl⟩
  obtain ⟨nc, HNC⟩ : ∃ n, Hid (n = c.length) := ⟨_, hid_of rfl⟩
  rw [← HNA.out] at SA
  rw [← HNB.out] at SB
  rw [← HNC.out] at SC
  rw [← HNA.out, ← HNB.out, ← HNC.out] at hb
  rw [← HNA.out, ← HNB.out, ← HNC.out]
  -- what the lists of the walk come to
  have hb0 := HB.out
  have hLA := len_S a
  have hLB := len_S b
  have hU := len_uni [a, b, c]
  have hI := len_inter a [b, c]
  have hD := len_diff a [b]
  have hI2 := len_inter a [b]
  have hAB := len_S (a ++ b)
  have hLE := lens a b
  have hGO := gone_len a b
  have hGR := grow_len a b
  rw [List.length_append] at hAB
  simp only [List.map_cons, List.map_nil, List.sum_cons, List.sum_nil] at hU
  have HLA := hid_of hLA
  have HLB := hid_of hLB
  have HLU : Hid ((uni [a, b, c]).length ≤ 1048576) := hid_of (by omega)
  have HLI : Hid ((inter [a, b, c]).length ≤ 1048576) := hid_of (by omega)
  have HLD : Hid ((diff [a, b]).length ≤ a.length) := hid_of hD
  have HLI2 : Hid ((inter [a, b]).length ≤ a.length) := hid_of hI2
  have HLAB : Hid ((S (a ++ b)).length ≤ 1048576) := hid_of (by omega)
  have HLE := hid_of hLE
  have HGO := hid_of hGO
  have HGR := hid_of hGR
  rw [S_S] at HGO
  clear hb0 h1 h2 h3 hLA hLB hU hI hD hI2 hAB hLE hGO hGR
  go_enter Try.func7, Try.ntmps7
  go_wp2_with fail
  refine HA.out.mono ?_
  rintro e w1 ⟨rfl, k1⟩
  have O1 := hid_of (⟨k1⟩ : On w w1)
  clear k1 HA

  have H := hid_of (union3 (SA.out w1 O1.out) (SB.out w1 O1.out) (SC.out w1 O1.out) (by have := HB.out; have := HLA.out; have := HLB.out; have := HLD.out; have := HLI2.out; have := HLAB.out; omega))
  go_wp2_with fail
  refine H.out.mono ?_
  rintro e w2 ⟨r, rfl, q, k⟩
  have O2 := hid_of (O1.out.go k)
  have U2 := hid_of (SL.any q.sl)
  obtain ⟨ra2, rc2, rfl, _⟩ := q.shape
  clear q k H O1
  have H := hid_of (union3 (SC.out w2 O2.out) (SB.out w2 O2.out) (SA.out w2 O2.out) (by have := HB.out; have := HLA.out; have := HLB.out; have := HLD.out; have := HLI2.out; have := HLAB.out; omega))
  rw [← uni_turn] at H
  go_wp2_with fail
  refine H.out.mono ?_
  rintro e w3 ⟨r, rfl, q, k⟩
  have O3 := hid_of (O2.out.go k)
  have U3 := hid_of (U2.out.below k)
  clear U2
  have V3 := hid_of (SL.any q.sl)
  obtain ⟨ra3, rc3, rfl, _⟩ := q.shape
  clear q k H O2
  have H := hid_of (inter3 (SA.out w3 O3.out) (SB.out w3 O3.out) (SC.out w3 O3.out) (by have := HB.out; have := HLA.out; have := HLB.out; have := HLD.out; have := HLI2.out; have := HLAB.out; omega))
  go_wp2_with fail
  refine H.out.mono ?_
  rintro e w4 ⟨r, rfl, q, k⟩
  have O4 := hid_of (O3.out.go k)
  have U4 := hid_of (U3.out.below k)
  clear U3
  have V4 := hid_of (V3.out.below k)
  clear V3
  have I4 := hid_of (SL.any q.sl)
  obtain ⟨ra4, rc4, rfl, _⟩ := q.shape
  clear q k H O3
  have H := hid_of (inter3 (SC.out w4 O4.out) (SA.out w4 O4.out) (SB.out w4 O4.out) (by have := HB.out; have := HLA.out; have := HLB.out; have := HLD.out; have := HLI2.out; have := HLAB.out; omega))
  rw [← inter_turn] at H
  go_wp2_with fail
  refine H.out.mono ?_
  rintro e w5 ⟨r, rfl, q, k⟩
  have O5 := hid_of (O4.out.go k)
  have U5 := hid_of (U4.out.below k)
  clear U4
  have V5 := hid_of (V4.out.below k)
  clear V4
  have I5 := hid_of (I4.out.below k)
  clear I4
  have K5 := hid_of (SL.any q.sl)
  obtain ⟨ra5, rc5, rfl, _⟩ := q.shape
  clear q k H O4
  generalize hzu : (uni [a, b, c]).length = zu at *
  generalize hzi : (inter [a, b, c]).length = zi at *
  have H := hid_of (same_true U5.out V5.out rfl (by have := HB.out; have := HLA.out; have := HLU.out; have := HLI.out; have := HLD.out; first | omega | (rw [uni_turn]; omega) | (rw [inter_turn]; omega) | (rw [left_is]; omega) | (rw [all_parts]; omega)))
  go_wp2_with fail
  refine H.out.mono ?_
  rintro e w6 ⟨rfl, md, hw⟩
  have kk : Below w5.heap.size w5 w6 := by rw [hw]; exact bel_drewN _ md
  have O6 := hid_of (O5.out.go kk)
  have U6 := hid_of (U5.out.below kk)
  clear U5
  have V6 := hid_of (V5.out.below kk)
  clear V5
  have I6 := hid_of (I5.out.below kk)
  clear I5
  have K6 := hid_of (K5.out.below kk)
  clear K5
  clear hw kk H O5
  have H := hid_of (same_true I6.out K6.out rfl (by have := HB.out; have := HLA.out; have := HLU.out; have := HLI.out; have := HLD.out; first | omega | (rw [uni_turn]; omega) | (rw [inter_turn]; omega) | (rw [left_is]; omega) | (rw [all_parts]; omega)))
  go_wp2_with fail
  refine H.out.mono ?_
  rintro e w7 ⟨rfl, md, hw⟩
  have kk : Below w6.heap.size w6 w7 := by rw [hw]; exact bel_drewN _ md
  have O7 := hid_of (O6.out.go kk)
  have U7 := hid_of (U6.out.below kk)
  clear U6
  have V7 := hid_of (V6.out.below kk)
  clear V6
  have I7 := hid_of (I6.out.below kk)
  clear I6
  have K7 := hid_of (K6.out.below kk)
  clear K6
  clear hw kk H O6
  have H := hid_of (valid_call U7.out (by have := HLU.out; have := HLI.out; omega))
  rw [decide_eq_true (ris_uni _)] at H
  go_wp2_with fail
  refine H.out.mono ?_
  rintro e w8 ⟨rfl, md, hw⟩
  have kk : Below w7.heap.size w7 w8 := by rw [hw]; exact bel_drewN _ md
  have O8 := hid_of (O7.out.go kk)
  have U8 := hid_of (U7.out.below kk)
  clear U7
  have V8 := hid_of (V7.out.below kk)
  clear V7
  have I8 := hid_of (I7.out.below kk)
  clear I7
  have K8 := hid_of (K7.out.below kk)
  clear K7
  clear hw kk H O7
  have H := hid_of (valid_call I8.out (by have := HLU.out; have := HLI.out; omega))
  rw [decide_eq_true (ris_inter _)] at H
  go_wp2_with fail
  refine H.out.mono ?_
  rintro e w9 ⟨rfl, md, hw⟩
  have kk : Below w8.heap.size w8 w9 := by rw [hw]; exact bel_drewN _ md
  have O9 := hid_of (O8.out.go kk)
  have U9 := hid_of (U8.out.below kk)
  clear U8
  have V9 := hid_of (V8.out.below kk)
  clear V8
  have I9 := hid_of (I8.out.below kk)
  clear I8
  have K9 := hid_of (K8.out.below kk)
  clear K8
  clear hw kk H O8
  clear U9 V9 I9 K9 hzu hzi
  have H := hid_of (diff2 (SA.out w9 O9.out) (SB.out w9 O9.out) (by have := HB.out; have := HLA.out; have := HLB.out; have := HLD.out; have := HLI2.out; have := HLAB.out; omega))
  go_wp2_with fail
  refine H.out.mono ?_
  rintro e w10 ⟨r, rfl, q, k⟩
  have O10 := hid_of (O9.out.go k)
  have D10 := hid_of (SL.any q.sl)
  obtain ⟨ra10, rc10, rfl, _⟩ := q.shape
  clear q k H O9
  have H := hid_of (inter2 (SA.out w10 O10.out) (SB.out w10 O10.out) (by have := HB.out; have := HLA.out; have := HLB.out; have := HLD.out; have := HLI2.out; have := HLAB.out; omega))
  go_wp2_with fail
  refine H.out.mono ?_
  rintro e w11 ⟨r, rfl, q, k⟩
  have O11 := hid_of (O10.out.go k)
  have D11 := hid_of (D10.out.below k)
  clear D10
  have E11 := hid_of (SL.any q.sl)
  obtain ⟨ra11, rc11, rfl, _⟩ := q.shape
  clear q k H O10
  have H := hid_of (inter2 D11.out E11.out (by have := HB.out; have := HLA.out; have := HLB.out; have := HLD.out; have := HLI2.out; have := HLAB.out; omega))
  rw [none_both] at H
  go_wp2_with fail
  refine H.out.mono ?_
  rintro e w12 ⟨r, rfl, q, k⟩
  have O12 := hid_of (O11.out.go k)
  have D12 := hid_of (D11.out.below k)
  clear D11
  have E12 := hid_of (E11.out.below k)
  clear E11
  obtain ⟨ra12, rc12, rfl, _⟩ := q.shape
  clear q k H O11
  rw [List.length_nil]
  have H := hid_of (union2 D12.out E12.out (by have := HB.out; have := HLA.out; have := HLB.out; have := HLD.out; have := HLI2.out; have := HLAB.out; omega))
  rw [all_parts] at H
  go_wp2_with fail
  refine H.out.mono ?_
  rintro e w13 ⟨r, rfl, q, k⟩
  have O13 := hid_of (O12.out.go k)
  have D13 := hid_of (D12.out.below k)
  clear D12
  have E13 := hid_of (E12.out.below k)
  clear E12
  have P13 := hid_of (SL.any q.sl)
  obtain ⟨ra13, rc13, rfl, _⟩ := q.shape
  clear q k H O12
  have H := hid_of (of_call (SA.out w13 O13.out) (by have := HB.out; have := HLA.out; have := HLB.out; have := HLD.out; have := HLI2.out; have := HLAB.out; omega))
  go_wp2_with fail
  refine H.out.mono ?_
  rintro e w14 ⟨r, rfl, q, k⟩
  have O14 := hid_of (O13.out.go k)
  have D14 := hid_of (D13.out.below k)
  clear D13
  have E14 := hid_of (E13.out.below k)
  clear E13
  have P14 := hid_of (P13.out.below k)
  clear P13
  have Q14 := hid_of (SL.any q.sl)
  obtain ⟨ra14, rc14, rfl, _⟩ := q.shape
  clear q k H O13
  have H := hid_of (same_true P14.out Q14.out rfl (by have := HB.out; have := HLA.out; have := HLU.out; have := HLI.out; have := HLD.out; first | omega | (rw [uni_turn]; omega) | (rw [inter_turn]; omega) | (rw [left_is]; omega) | (rw [all_parts]; omega)))
  go_wp2_with fail
  refine H.out.mono ?_
  rintro e w15 ⟨rfl, md, hw⟩
  have kk : Below w14.heap.size w14 w15 := by rw [hw]; exact bel_drewN _ md
  have O15 := hid_of (O14.out.go kk)
  have D15 := hid_of (D14.out.below kk)
  clear D14
  have E15 := hid_of (E14.out.below kk)
  clear E14
  have P15 := hid_of (P14.out.below kk)
  clear P14
  have Q15 := hid_of (Q14.out.below kk)
  clear Q14
  clear hw kk H O14
  clear P15 Q15 E15
  obtain ⟨zD, hzD⟩ : ∃ z, (diff [a, b]).length = z := ⟨_, rfl⟩
  obtain ⟨zE, hzE⟩ : ∃ z, (inter [a, b]).length = z := ⟨_, rfl⟩
  obtain ⟨zS, hzS⟩ : ∃ z, (S a).length = z := ⟨_, rfl⟩
  have hsum : IntKind.i64.wrap ((zD : Int) + (zE : Int)) = (zS : Int) := by have e := HLE.out; rw [hzD, hzE, hzS] at e; rw [show ((zD : Int) + (zE : Int)) = (zS : Int) by omega]; exact IntWalk.i64_in _ (by have := HLA.out; have := HB.out; omega)
  rw [hzD, hzE, hzS]
  rw [hzD] at D15
  have HZS := hid_of hzS
  have HZD := hid_of hzD
  clear hzD hzE hzS
  have H := hid_of (of_call (SA.out w15 O15.out) (by have := HB.out; have := HLA.out; have := HLB.out; have := HLD.out; have := HLI2.out; have := HLAB.out; omega))
  go_wp2_with fail
  refine H.out.mono ?_
  rintro e w16 ⟨r, rfl, q, k⟩
  have O16 := hid_of (O15.out.go k)
  have D16 := hid_of (D15.out.below k)
  clear D15
  obtain ⟨ra16, rc16, rfl, _⟩ := q.shape
  clear q k H O15
  rw [HZS.out]
  clear hsum
  obtain ⟨zT, hzT⟩ : ∃ z, (S (a ++ b)).length = z := ⟨_, rfl⟩
  obtain ⟨zB, hzB⟩ : ∃ z, (S b).length = z := ⟨_, rfl⟩
  obtain ⟨gn, hgn⟩ : ∃ g : Int, (zT : Int) - (zS : Int) = g := ⟨_, rfl⟩
  have HZT := hid_of hzT
  have HZB := hid_of hzB
  have HGN := hid_of hgn
  have HX1 : Hid (((S (a ++ b)).length : Int) - ((S a).length : Int) = gn) := hid_of (by rw [hzT, HZS.out]; exact hgn)
  have HX2 : Hid (((S (S (a ++ b))).length : Int) - ((dif (S (a ++ b)) b).length : Int) = (zB : Int)) := hid_of (by have e := HGO.out; rw [S_S, ← hzB]; omega)
  clear hzT hzB hgn
  have H := hid_of (add_call (SA.out w16 O16.out) (SB.out w16 O16.out) (by have := HB.out; have := HLA.out; have := HLB.out; have := HLD.out; have := HLI2.out; have := HLAB.out; omega))
  rw [HX1.out] at H
  go_wp2_with fail
  refine H.out.mono ?_
  rintro e w17 ⟨r, rfl, q, k⟩
  have O17 := hid_of (O16.out.go k)
  have D17 := hid_of (D16.out.below k)
  clear D16
  have T17 := hid_of (SL.any q.sl)
  obtain ⟨ra17, rc17, rfl, _⟩ := q.shape
  clear q k H O16
  rw [HZT.out] at T17 ⊢
  have H := hid_of (remove_call T17.out (SB.out w17 O17.out) (by have := HB.out; have := HLA.out; have := HLB.out; have := HLD.out; have := HLI2.out; have := HLAB.out; omega))
  rw [HX2.out, left_is] at H
  go_wp2_with fail
  refine H.out.mono ?_
  rintro e w18 ⟨r, rfl, q, k⟩
  have O18 := hid_of (O17.out.go k)
  have D18 := hid_of (D17.out.below k)
  clear D17
  have T18 := hid_of (T17.out.below k)
  clear T17
  have R18 := hid_of (SL.any q.sl)
  obtain ⟨ra18, rc18, rfl, _⟩ := q.shape
  clear q k H O17
  rw [HZD.out] at R18 ⊢
  have hsum2 : IntKind.i64.wrap ((zS : Int) + gn) = (zT : Int) := by have := HGN.out; rw [show (zS : Int) + gn = (zT : Int) by omega]; exact IntWalk.i64_in _ (by have := HLAB.out; rw [HZT.out] at this; omega)
  have H := hid_of (of_call (SA.out w18 O18.out) (by have := HB.out; have := HLA.out; have := HLB.out; have := HLD.out; have := HLI2.out; have := HLAB.out; omega))
  go_wp2_with fail
  refine H.out.mono ?_
  rintro e w19 ⟨r, rfl, q, k⟩
  have O19 := hid_of (O18.out.go k)
  have D19 := hid_of (D18.out.below k)
  clear D18
  have T19 := hid_of (T18.out.below k)
  clear T18
  have R19 := hid_of (R18.out.below k)
  clear R18
  obtain ⟨ra19, rc19, rfl, _⟩ := q.shape
  clear q k H O18
  rw [HZS.out]
  have H := hid_of (same_true R19.out D19.out rfl (by have := HB.out; have := HLA.out; have := HLU.out; have := HLI.out; have := HLD.out; first | omega | (rw [uni_turn]; omega) | (rw [inter_turn]; omega) | (rw [left_is]; omega) | (rw [all_parts]; omega)))
  go_wp2_with fail
  refine H.out.mono ?_
  rintro e w20 ⟨rfl, md, hw⟩
  have kk : Below w19.heap.size w19 w20 := by rw [hw]; exact bel_drewN _ md
  have O20 := hid_of (O19.out.go kk)
  have D20 := hid_of (D19.out.below kk)
  clear D19
  have T20 := hid_of (T19.out.below kk)
  clear T19
  have R20 := hid_of (R19.out.below kk)
  clear R19
  clear hw kk H O19
  clear hsum2
  have H := hid_of (of_call (SB.out w20 O20.out) (by have := HB.out; have := HLA.out; have := HLB.out; have := HLD.out; have := HLI2.out; have := HLAB.out; omega))
  go_wp2_with fail
  refine H.out.mono ?_
  rintro e w21 ⟨r, rfl, q, k⟩
  have O21 := hid_of (O20.out.go k)
  have D21 := hid_of (D20.out.below k)
  clear D20
  have T21 := hid_of (T20.out.below k)
  clear T20
  have R21 := hid_of (R20.out.below k)
  clear R20
  obtain ⟨ra21, rc21, rfl, _⟩ := q.shape
  clear q k H O20
  rw [HZB.out]
  clear D21
  go_wp2_with fail
  go_loopg [17] nb (fun g s17 wx => ∃ j : Nat, j ≤ nb ∧ nb ≤ j + g ∧ s17 = .int .i64 (j : Int) ∧ wx = w21)
  case atStart => exact ⟨0, by omega, by omega, rfl, rfl⟩
  case round =>
    obtain ⟨j, hj, hg, rfl, rfl⟩ := hrel
    by_cases hlt : j < nb
    · obtain ⟨g', rfl⟩ : ∃ g', gk = g' + 1 := ⟨gk - 1, by omega⟩
      have hjb : j < b.length := by rw [← HNB.out]; exact hlt
      obtain ⟨gb, ob, e0, cb⟩ := RD.out wr O21.out j b[j] (List.getElem?_eq_getElem hjb)
      cases e0
      have H1 := hid_of (has_call b[j] T21.out (by have := HLAB.out; omega))
      rw [decide_eq_true (show b[j] ∈ S (a ++ b) from mem_S.2 (List.mem_append_right _ (List.getElem_mem hjb)))] at H1
      have H2 := hid_of (has_call b[j] R21.out (by have := HLD.out; have := HB.out; omega))
      rw [decide_eq_false (show b[j] ∉ diff [a, b] from fun q => (mem_alone.1 q).2 (List.getElem_mem hjb))] at H2
      generalize b[j] = yy at *
      have w2' : IntKind.i64.wrap ((j : Int) + 1) = (j : Int) + 1 := IntWalk.i64_in _ (by omega)
      go_wp2_with fail
      refine H1.out.mono ?_
      rintro e w' ⟨rfl, rfl⟩
      go_wp2_with fail
      refine H2.out.mono ?_
      rintro e w' ⟨rfl, rfl⟩
      go_wp2_with fail
      go_roundg g'
      case measure => omega
      case rel => exact ⟨j + 1, by omega, by omega, by simp, rfl⟩
    · have K := hid_of O21.out.bl
      go_wp2_with fail
      go_ret
      exact ⟨rfl, K.out⟩
end Go.Proofs.Ythhlembempknmaa.Rules
