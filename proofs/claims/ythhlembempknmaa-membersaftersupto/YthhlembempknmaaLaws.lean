/- MembersAfters, MembersJoins, MembersAdds, walked. -/
import Derived.Test.YthhlembempknmaaSets
namespace Go.Proofs.Ythhlembempknmaa.Laws
open Go.RowKit Go.Sort
open Go.Proofs.Ythhlembempknmaa.SetMath
open Go.Proofs.Ythhlembempknmaa.Base
open Go.Proofs.Ythhlembempknmaa.Small
open Go.Proofs.Ythhlembempknmaa.Of
open Go.Proofs.Ythhlembempknmaa.Lists
open Go.Proofs.Ythhlembempknmaa.ROf
open Go.Proofs.Ythhlembempknmaa.Code
open Go.Proofs.Ythhlembempknmaa.After
open Go.Proofs.Ythhlembempknmaa.Awake
open Go.Proofs.Ythhlembempknmaa.RefJ
open Go.Proofs.Ythhlembempknmaa.RefK
open Go.Proofs.Ythhlembempknmaa.Twins
open Go.Proofs.Ythhlembempknmaa.Kept
open Go.Proofs.Ythhlembempknmaa.Sets
set_option linter.unusedVariables false
set_option linter.unusedSimpArgs false
set_option maxHeartbeats 2000000 in
set_option maxRecDepth 100000 in
theorem afters_call {G : Nat → Prop} {w : World} {v : Value} {l : List El} (m : Bs) (most : Int) (h : SL G w v l) (hb : l.length * 16 ≤ 140737488355328) :
    Calls Try.prog 6 #[v, V m, .int .i64 most] w fun e w' => e = .returned (.bool true) ∧ Below w.heap.size w w' := by
  have b0 := (Below.refl w.heap.size w).alloc (Nat.le_refl _) (.cells #[v] 22)
  have HT := hid_of (twins_call (c := 1) (ll_one h) (by simp) (by simp) (by rw [tot_cons]; simp [tot]; exact hb))
  have e1 : [l].length = 1 := rfl
  rw [e1] at HT
  have B0 := hid_of b0
  have HS := hid_of fun (W : World) (o : On w W) => h.below o.bl
  obtain ⟨a, c, rfl, _⟩ := SL.len h
  obtain ⟨n, HN⟩ : ∃ n, Hid (n = l.length) := ⟨_, hid_of rfl⟩
  rw [← HN.out] at hb HT HS B0 ⊢
  clear h b0 e1
  go_enter Try.func6, Try.ntmps6
  go_wp2_with fail
  refine HT.out.mono ?_
  rintro e w1 ⟨r1, us, rfl, tl, k1⟩
  have O1 := hid_of (⟨bel B0.out k1 (Nat.le_refl _)⟩ : On w w1)
  obtain ⟨ra, rc, rfl, hrc, ll⟩ := tl.ll
  obtain ⟨g1, o1, u1, rfl, c1, sl1⟩ := ll.get (j := 0) rfl
  rw [Nat.add_zero] at c1
  have T1 := hid_of fun (W : World) (o : On w1 W) => tl.below o.bl
  have HO := hid_of (after_call m most sl1 (by rw [← HN.out]; exact hb))
  obtain ⟨ua, uc, rfl, _⟩ := SL.len sl1
  have e1 : [l].length = 1 := rfl
  rw [e1] at T1 ⊢
  rw [← HN.out] at c1 HO
  clear tl k1 ll sl1 HT B0 e1
  go_wp2_with fail
  refine HO.out.mono ?_
  rintro e w2 ⟨r2, rfl, q2, k2⟩
  have N2 := hid_of ((On.refl w1).go k2)
  have HR := hid_of (rafter_call m most (HS.out w2 ⟨bel O1.out.bl k2 (Nat.le_refl _)⟩) (by rw [← HN.out]; exact hb))
  have Q2 := hid_of q2
  obtain ⟨ra2, rc2, rfl, _⟩ := q2.shape
  clear q2 k2 HO c1
  have hlz := len_aft l m most.toNat
  rw [← HN.out] at hlz
  generalize hz : (aft l m most.toNat).length = z at *
  go_wp2_with fail
  refine HR.out.mono ?_
  rintro e w3 ⟨r3, rfl, q3, k3⟩
  have N3 := hid_of (N2.out.go k3)
  have HM := hid_of (same_true (Q2.out.below k3).sl q3.sl rfl (by rw [hz]; omega))
  obtain ⟨ra3, rc3, rfl, _⟩ := q3.shape
  rw [hz] at HM ⊢
  clear q3 k3 HR Q2 hz
  go_wp2_with fail
  refine HM.out.mono ?_
  rintro e w8 ⟨rfl, m4, hw4⟩
  have N8 : Hid (On w1 w8) := hid_of (by rw [hw4]; exact N3.out.drewN m4)
  have HK := hid_of (kept_call (c' := 1) (T1.out _ (N8.out.alloc (.cells #[.slice a n c] 22))) (ll_one (HS.out w8 ⟨bel O1.out.bl N8.out.bl (Nat.le_refl _)⟩)) (by simp) (by intro x hx; rw [List.mem_singleton.1 hx, ← HN.out]; omega))
  clear hw4 HM
  go_wp2_with fail
  refine HK.out.mono ?_
  rintro e w9 ⟨rfl, m9, hw9⟩
  have N9 : Hid (On w1 w9) := hid_of (by rw [hw9]; exact (N8.out.alloc _).drewN m9)
  have HA := hid_of (awake_call w9)
  clear hw9 HK
  go_wp2_with fail
  refine HA.out.mono ?_
  rintro e w10 ⟨rfl, k10⟩
  have K := hid_of (bel O1.out.bl (N9.out.go k10).bl (Nat.le_refl _))
  clear k10 HA
  go_wp2_with fail
  go_ret
  exact ⟨by simp, K.out⟩
set_option maxHeartbeats 2000000 in
set_option maxRecDepth 100000 in
theorem joins_call {G : Nat → Prop} {w : World} {a : Option Addr} {c : Nat} {ls : List (List El)} {us0 : List Value} (most : Int) (h : LL G w a ls us0) (hc : ls.length ≤ c) (hl : ls.length * 24 ≤ 140737488355328) (hb : tot ls * 16 ≤ 140737488355328) :
    Calls Try.prog 5 #[.slice a ls.length c, .int .i64 most] w fun e w' => e = .returned (.bool true) ∧ Below w.heap.size w w' := by
  have HT := hid_of (twins_call h hc hl hb)
  have HS := hid_of fun (W : World) (o : On w W) => h.below o.bl
  obtain ⟨n, HN⟩ : ∃ n, Hid (n = ls.length) := ⟨_, hid_of rfl⟩
  have hl2 : ls.length ≤ 140737488355328 := by omega
  have HL2 := hid_of hl2
  have HB := hid_of hb
  have HC := hid_of hc
  rw [← HN.out] at HT hc ⊢
  clear h hl2 hb hl
  go_enter Try.func5, Try.ntmps5
  go_wp2_with fail
  refine HT.out.mono ?_
  rintro e w1 ⟨r1, us, rfl, tl, k1⟩
  have O1 := hid_of (⟨k1⟩ : On w w1)
  obtain ⟨ra, rc, rfl, hrc, ll⟩ := tl.ll
  have T1 := hid_of fun (W : World) (o : On w1 W) => tl.below o.bl
  have L1 := hid_of fun (W : World) (o : On w1 W) => ll.below o.bl
  have HRC := hid_of hrc
  have HU := hid_of (union_call (L1.out w1 (On.refl w1)) hrc HL2.out HB.out)
  rw [← HN.out] at HU T1 ⊢
  clear tl k1 ll HT hrc
  go_wp2_with fail
  refine HU.out.mono ?_
  rintro e w2 ⟨r2, rfl, q2, k2⟩
  have N2 := hid_of ((On.refl w1).go k2)
  have HR := hid_of (runion_call (HS.out w2 ⟨bel O1.out.bl N2.out.bl (Nat.le_refl _)⟩) HC.out HL2.out HB.out)
  rw [← HN.out] at HR
  have Q2 := hid_of q2
  obtain ⟨ra2, rc2, rfl, _⟩ := q2.shape
  clear q2 k2 HU
  go_wp2_with fail
  refine HR.out.mono ?_
  rintro e w3 ⟨r3, rfl, q3, k3⟩
  have N3 := hid_of (N2.out.go k3)
  have HM := hid_of (same_true (Q2.out.below k3).sl q3.sl rfl (by have h1 : (uni ls).length ≤ tot ls := len_uni ls; have := HB.out; omega))
  obtain ⟨ra3, rc3, rfl, _⟩ := q3.shape
  generalize hz : (uni ls).length = z at *
  clear q3 k3 HR Q2 hz
  go_wp2_with fail
  refine HM.out.mono ?_
  rintro e w4 ⟨rfl, m4, hw4⟩
  have N4 : Hid (On w1 w4) := hid_of (by rw [hw4]; exact N3.out.drewN m4)
  have HI := hid_of (inter_call (L1.out w4 N4.out) HRC.out HL2.out HB.out)
  rw [← HN.out] at HI
  clear hw4 HM
  go_wp2_with fail
  refine HI.out.mono ?_
  rintro e w5 ⟨r5, rfl, q5, k5⟩
  have N5 := hid_of (N4.out.go k5)
  have HR5 := hid_of (rinter_call (HS.out w5 ⟨bel O1.out.bl N5.out.bl (Nat.le_refl _)⟩) HC.out HL2.out HB.out)
  rw [← HN.out] at HR5
  have Q5 := hid_of q5
  obtain ⟨ra5, rc5, rfl, _⟩ := q5.shape
  clear q5 k5 HI
  go_wp2_with fail
  refine HR5.out.mono ?_
  rintro e w6 ⟨r6, rfl, q6, k6⟩
  have N6 := hid_of (N5.out.go k6)
  have hil : (inter ls).length ≤ tot ls := by
    cases ls with
    | nil => simp [inter]
    | cons x r => rw [tot_cons]; have := len_inter x r; omega
  have HM6 := hid_of (same_true (Q5.out.below k6).sl q6.sl rfl (by have := HB.out; omega))
  obtain ⟨ra6, rc6, rfl, _⟩ := q6.shape
  generalize hz : (inter ls).length = z6 at *
  clear q6 k6 HR5 Q5 hz hil
  go_wp2_with fail
  refine HM6.out.mono ?_
  rintro e w7 ⟨rfl, m7, hw7⟩
  have N7 : Hid (On w1 w7) := hid_of (by rw [hw7]; exact N6.out.drewN m7)
  have HD := hid_of (diff_call (L1.out w7 N7.out) HRC.out HL2.out HB.out)
  rw [← HN.out] at HD
  clear hw7 HM6
  go_wp2_with fail
  refine HD.out.mono ?_
  rintro e w8 ⟨r8, rfl, q8, k8⟩
  have N8 := hid_of (N7.out.go k8)
  have HR8 := hid_of (rdiff_call (HS.out w8 ⟨bel O1.out.bl N8.out.bl (Nat.le_refl _)⟩) HC.out HL2.out HB.out)
  rw [← HN.out] at HR8
  have Q8 := hid_of q8
  obtain ⟨ra8, rc8, rfl, _⟩ := q8.shape
  clear q8 k8 HD
  go_wp2_with fail
  refine HR8.out.mono ?_
  rintro e w9 ⟨r9, rfl, q9, k9⟩
  have N9 := hid_of (N8.out.go k9)
  have hdl : (diff ls).length ≤ tot ls := by
    cases ls with
    | nil => simp [diff]
    | cons x r => rw [tot_cons]; have := len_diff x r; omega
  have HM9 := hid_of (same_true (Q8.out.below k9).sl q9.sl rfl (by have := HB.out; omega))
  obtain ⟨ra9, rc9, rfl, _⟩ := q9.shape
  generalize hz : (diff ls).length = z9 at *
  clear q9 k9 HR8 Q8 hz hdl
  go_wp2_with fail
  refine HM9.out.mono ?_
  rintro e w10 ⟨rfl, m10, hw10⟩
  have N10 : Hid (On w1 w10) := hid_of (by rw [hw10]; exact N9.out.drewN m10)
  have HC10 := hid_of (count_call most (L1.out w10 N10.out) HRC.out HL2.out HB.out)
  rw [← HN.out] at HC10
  clear hw10 HM9
  go_wp2_with fail
  refine HC10.out.mono ?_
  rintro e w11 ⟨rfl, k11⟩
  have N11 := hid_of (N10.out.go k11)
  have HC11 := hid_of (rcount_call most (HS.out w11 ⟨bel O1.out.bl N11.out.bl (Nat.le_refl _)⟩) HC.out HL2.out HB.out)
  rw [← HN.out] at HC11
  clear k11 HC10
  generalize cnt most (inter ls).length = cc at *
  go_wp2_with fail
  refine HC11.out.mono ?_
  rintro e w12 ⟨rfl, k12⟩
  have N12 := hid_of (N11.out.go k12)
  have HK := hid_of (kept_call (c' := c) (T1.out w12 N12.out) (HS.out w12 ⟨bel O1.out.bl N12.out.bl (Nat.le_refl _)⟩) HL2.out (by intro x hx; have := tot_mem hx; have := HB.out; omega))
  rw [← HN.out] at HK
  clear k12 HC11
  go_wp2_with fail
  refine HK.out.mono ?_
  rintro e w13 ⟨rfl, m13, hw13⟩
  have N13 : Hid (On w1 w13) := hid_of (by rw [hw13]; exact N12.out.drewN m13)
  have HA := hid_of (awake_call w13)
  clear hw13 HK
  go_wp2_with fail
  refine HA.out.mono ?_
  rintro e w14 ⟨rfl, k14⟩
  have K := hid_of (bel O1.out.bl (N13.out.go k14).bl (Nat.le_refl _))
  clear k14 HA
  go_wp2_with fail
  go_ret
  exact ⟨by simp, K.out⟩
set_option maxHeartbeats 4000000 in
set_option maxRecDepth 100000 in
theorem adds_call {G G' : Nat → Prop} {w : World} {u v : Value} {l m : List El} (h : SL G w u l) (h' : SL G' w v m) (hb : (l.length + m.length) * 16 ≤ 140737488355328) :
    Calls Try.prog 4 #[u, v] w fun e w' => e = .returned (.bool true) ∧ Below w.heap.size w w' := by
  have b0 := (Below.refl w.heap.size w).alloc (Nat.le_refl _) (.cells #[u, v] 22)
  have HT := hid_of (twins_call (c := 2) (ll_two h h') (by simp) (by simp) (by rw [tot_cons, tot_cons]; simp [tot]; omega))
  have e1 : [l, m].length = 2 := rfl
  rw [e1] at HT
  have B0 := hid_of b0
  have HS := hid_of fun (W : World) (o : On w W) => h.below o.bl
  have HS' := hid_of fun (W : World) (o : On w W) => h'.below o.bl
  obtain ⟨a, c, rfl, _⟩ := SL.len h
  obtain ⟨a', c', rfl, _⟩ := SL.len h'
  obtain ⟨n, HN⟩ : ∃ n, Hid (n = l.length) := ⟨_, hid_of rfl⟩
  obtain ⟨p, HP⟩ : ∃ p, Hid (p = m.length) := ⟨_, hid_of rfl⟩
  have HB := hid_of hb
  rw [← HN.out, ← HP.out] at hb HT B0 ⊢
  rw [← HN.out] at HS
  rw [← HP.out] at HS'
  clear h h' b0 e1
  go_enter Try.func4, Try.ntmps4
  go_wp2_with fail
  refine HT.out.mono ?_
  rintro e w1 ⟨r1, us, rfl, tl, k1⟩
  have O1 := hid_of (⟨bel B0.out k1 (Nat.le_refl _)⟩ : On w w1)
  obtain ⟨ra, rc, rfl, hrc, ll⟩ := tl.ll
  obtain ⟨g1, o1, u1, rfl, c1, sl1⟩ := ll.get (j := 0) rfl
  obtain ⟨g2, o2, u2, eg, c2, sl2⟩ := ll.get (j := 1) rfl
  cases eg
  rw [Nat.add_zero] at c1
  have T1 := hid_of fun (W : World) (o : On w1 W) => tl.below o.bl
  have C1 := hid_of fun (W : World) (o : On w1 W) => (World.cell?_of_block (w := w1) (o.bl.block g1 (cell_lt c1))).trans c1
  have C2 := hid_of fun (W : World) (o : On w1 W) => (World.cell?_of_block (w := w1) (o.bl.block g1 (cell_lt c2))).trans c2
  have S1 := hid_of fun (W : World) (o : On w1 W) => sl1.below o.bl
  have S2 := hid_of fun (W : World) (o : On w1 W) => sl2.below o.bl
  have HA1 := hid_of fun (W : World) (o : On w1 W) => add_call (S1.out W o) (S2.out W o) HB.out
  have HR1 := hid_of fun (W : World) (o : On w1 W) => remove_call (S1.out W o) (S2.out W o) HB.out
  obtain ⟨ua, uc, rfl, _⟩ := SL.len sl1
  obtain ⟨ub, uc2, rfl, _⟩ := SL.len sl2
  have e1 : [l, m].length = 2 := rfl
  rw [e1] at T1 ⊢
  rw [← HN.out] at c1 C1
  rw [← HP.out] at c2 C2
  rw [← HN.out, ← HP.out] at HA1 HR1
  have d1 : Hid (On w1 w1.drew) := hid_of ((On.refl w1).drewN 1)
  clear tl k1 ll sl1 sl2 HT B0 e1 S1 S2
  go_wp2_with fail
  go_region_held3 (fun V => V.cell? ⟨g1, o1, none⟩ = some (.slice ua n uc) ∧ V.cell? ⟨g1, o1 + 1, none⟩ = some (.slice ub p uc2)) (first | exact ⟨c1, c2⟩ | exact k2c) (first
    | (go_at_call 19; refine (HA1.out _ d1.out).mono ?_; rintro e w2 ⟨r2, rfl, q2, k2⟩; have N2 := hid_of (d1.out.go k2); have Q2 := hid_of q2; have k2c := And.intro (C1.out w2 N2.out) (C2.out w2 N2.out); clear q2 k2))
  obtain ⟨ra2, rc2, rfl, _⟩ := Q2.out.shape
  obtain ⟨f1, f2⟩ := k2c
  have d2 : Hid (On w1 w2.drew) := hid_of (N2.out.drewN 1)
  generalize hzA : (S (l ++ m)).length = zA at *
  generalize hzS : (S l).length = zS at *
  clear c1 c2 d1 HA1
  go_wp2_with fail
  go_region_held3 (fun V => V.cell? ⟨g1, o1, none⟩ = some (.slice ua n uc) ∧ V.cell? ⟨g1, o1 + 1, none⟩ = some (.slice ub p uc2)) (first | exact ⟨f1, f2⟩ | exact k3c) (first
    | (go_at_call 20; refine (HR1.out _ d2.out).mono ?_; rintro e w3 ⟨r3, rfl, q3, k3⟩; have N3 := hid_of (d2.out.go k3); have Q3 := hid_of q3; have Q23 := hid_of ((Q2.out.drewN 1).below k3); have k3c := And.intro (C1.out w3 N3.out) (C2.out w3 N3.out); clear q3 k3))
  obtain ⟨ra3, rc3, rfl, _⟩ := Q3.out.shape
  generalize hzD : (dif l m).length = zD at *
  have HA := hid_of (radd_call (HS.out w3 ⟨bel O1.out.bl N3.out.bl (Nat.le_refl _)⟩) (HS'.out w3 ⟨bel O1.out.bl N3.out.bl (Nat.le_refl _)⟩) HB.out)
  rw [hzA, hzS] at HA
  clear f1 f2 d2 HR1 k3c
  go_wp2_with fail
  refine HA.out.mono ?_
  rintro e w4 ⟨r4, rfl, q4, k4⟩
  have N4 := hid_of (N3.out.go k4)
  have HR := hid_of (rremove_call (HS.out w4 ⟨bel O1.out.bl N4.out.bl (Nat.le_refl _)⟩) (HS'.out w4 ⟨bel O1.out.bl N4.out.bl (Nat.le_refl _)⟩) HB.out)
  rw [hzD, hzS] at HR
  have Q4 := hid_of q4
  have Q24 := hid_of (Q23.out.below k4)
  have Q34 := hid_of (Q3.out.below k4)
  obtain ⟨ra4, rc4, rfl, _⟩ := q4.shape
  rw [hzA] at Q4 ⊢
  clear q4 k4 HA Q2 Q23 Q3
  go_wp2_with fail
  refine HR.out.mono ?_
  rintro e w5 ⟨r5, rfl, q5, k5⟩
  have N5 := hid_of (N4.out.go k5)
  have Q5 := hid_of q5
  have Q35 := hid_of (Q34.out.below k5)
  have HM := hid_of (same_true (Q24.out.below k5).sl (Q4.out.below k5).sl rfl (by have := len_S (l ++ m); rw [List.length_append] at this; have := HB.out; omega))
  obtain ⟨ra5, rc5, rfl, _⟩ := q5.shape
  rw [hzD] at Q5 ⊢
  clear q5 k5 HR Q4 Q24 Q34
  go_wp2_with fail
  refine HM.out.mono ?_
  rintro e w6 ⟨rfl, m6, hw6⟩
  have N6 : Hid (On w1 w6) := hid_of (by rw [hw6]; exact N5.out.drewN m6)
  have hdl : (dif l m).length ≤ (S l).length := List.length_filter_le _ _
  have HM6 : Hid (Calls Try.prog 10 #[.slice ra3 zD rc3, .slice ra5 zD rc5] w6 fun e w' => e = .returned (.bool true) ∧ ∃ m, w' = w6.drewN m) := hid_of (by
    rw [hw6]
    exact same_true (Q35.out.drewN m6).sl (Q5.out.drewN m6).sl rfl (by have := len_S l; have := HB.out; omega))
  clear hw6 HM hdl Q35 Q5 hzA hzD hzS
  go_wp2_with fail
  refine HM6.out.mono ?_
  rintro e w7 ⟨rfl, m7, hw7⟩
  have N7 : Hid (On w1 w7) := hid_of (by rw [hw7]; exact N6.out.drewN m7)
  have HK := hid_of (kept_call (c' := 2) (T1.out _ (N7.out.alloc (.cells #[.slice a n c, .slice a' p c'] 22))) (ll_two (HS.out w7 ⟨bel O1.out.bl N7.out.bl (Nat.le_refl _)⟩) (HS'.out w7 ⟨bel O1.out.bl N7.out.bl (Nat.le_refl _)⟩)) (by simp) (by
    intro x hx
    have := HB.out
    rcases List.mem_cons.1 hx with rfl | hx
    · omega
    · rw [List.mem_singleton.1 hx]; omega))
  clear hw7 HM6
  go_wp2_with fail
  refine HK.out.mono ?_
  rintro e w8 ⟨rfl, m8, hw8⟩
  have N8 : Hid (On w1 w8) := hid_of (by rw [hw8]; exact (N7.out.alloc _).drewN m8)
  have HA8 := hid_of (awake_call w8)
  clear hw8 HK
  go_wp2_with fail
  refine HA8.out.mono ?_
  rintro e w9 ⟨rfl, k9⟩
  have K := hid_of (bel O1.out.bl (N8.out.go k9).bl (Nat.le_refl _))
  clear k9 HA8
  go_wp2_with fail
  go_ret
  exact ⟨by simp, K.out⟩
end Go.Proofs.Ythhlembempknmaa.Laws
