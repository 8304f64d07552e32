/- The law RankPops. -/
import Derived.Test.YtighoelipihifabGreatDoorPopsMath
import Derived.Test.YtighoelipihifabGreatDoorNames
import Derived.Test.YtighoelipihifabGreatDoorSure
import Derived.Test.YtighoelipihifabGreatDoorTwin
import Derived.Test.YtighoelipihifabGreatDoorRef1
import Derived.BigQuiet
import Derived.Deep.RegionHeld3
namespace Go.Proofs.YtighoelipihifabGreatDoor.Pops
open Go.RowKit Go.Maps Go.Sort
open Go.Proofs.YtighoelipihifabGreatDoor.MapMath
open Go.Proofs.YtighoelipihifabGreatDoor.RankMath
open Go.Proofs.YtighoelipihifabGreatDoor.RankMath2
open Go.Proofs.YtighoelipihifabGreatDoor.RankMath3
open Go.Proofs.YtighoelipihifabGreatDoor.PopsMath
open Go.Proofs.YtighoelipihifabGreatDoor.Base
open Go.Proofs.YtighoelipihifabGreatDoor.Rank1
open Go.Proofs.YtighoelipihifabGreatDoor.Run
open Go.Proofs.YtighoelipihifabGreatDoor.Names
open Go.Proofs.YtighoelipihifabGreatDoor.Of
open Go.Proofs.YtighoelipihifabGreatDoor.Twin
open Go.Proofs.YtighoelipihifabGreatDoor.Ref1
open Go.Proofs.YtighoelipihifabGreatDoor.Sure
open Go.Proofs.YtighoelipihifabGreatDoor.Parse (Has)
set_option linter.unusedVariables false
/- the rank with the list X, and three lists that were handed out -/
structure St (w : World) (B b : Nat) (X L A Q : EL) (vm va vb : Value) (W : World) : Prop where
  rk : RK B b X W
  m : OR 0 W vm L
  a : OR 0 W va A
  b : OR 0 W vb Q
  low : Below w.heap.size w W
  hB : B ≤ W.heap.size
section
variable {w W W' : World} {B b : Nat} {X X' L A Q : EL} {vm va vb : Value}
theorem St.below (h : St w B b X L A Q vm va vb W) (hb : Below W.heap.size W W') : St w B b X L A Q vm va vb W' :=
  ⟨h.rk.below hb, row_below h.m hb, row_below h.a hb, row_below h.b hb, Base.bel h.low hb (Nat.le_refl _), Nat.le_trans h.hB hb.size⟩
theorem St.ev (h : St w B b X L A Q vm va vb W) (hw : w.heap.size ≤ B) (r : RK B b X' W') (he : Ev B W W') : St w B b X' L A Q vm va vb W' :=
  ⟨r, row_ev h.m he, row_ev h.a he, row_ev h.b he, h.low.trans ((he.below h.hB).mono hw), Nat.le_trans h.hB (he.below h.hB).size⟩
end
theorem or_shape {C : Nat} {w : World} {v : Value} {l : EL} (h : OR C w v l) : ∃ a c, v = .slice a l.length c ∧ l.length ≤ c := by
  obtain ⟨a, c, e, hc, _⟩ := fs_row h
  exact ⟨a, c, e, hc⟩
theorem eqP' (a : Nat) (w : World) : (binOp .eql 23 (.pointer (some ⟨a, 0, none⟩)) (.pointer none)).run Tryz.prog w = .ok (.bool false) w := by kernel_rfl
set_option maxHeartbeats 8000000 in
set_option maxRecDepth 100000 in
theorem pops_call (v : Value) (l : EL) (n k : Int) (w : World) (h : FS w v l) (hn : l.length ≤ 5864062014634) (hk : ∀ p ∈ l, p.1.length ≤ 140737488355328) (hh : Has w) : Calls Tryz.prog 3 #[v, .int .i64 n, .int .i64 k] w fun e w' => e = .returned (.bool true) ∧ Below w.heap.size w w' := by
  have hbig : l.length ≤ big := Nat.le_trans hn (by decide)
  have HF := hid_of h
  have HH := hid_of hh
  have HK := hid_of hk
  have H1 := hid_of (twin_call v l w h hbig)
  obtain ⟨a, c, rfl, hc, h'⟩ := h
  clear h' hk hh
  go_enter Tryz.func3, Tryz.ntmps3
  go_wp2_with fail
  refine H1.out.mono ?_
  rintro e w1 ⟨v1, rfl, o1, b1⟩
  have H2 := hid_of (of_call v1 l w1 (fs_row o1) hbig HK.out)
  have B1 := hid_of b1
  clear o1 b1 H1
  go_wp2_with fail
  refine H2.out.mono ?_
  rintro e w2 ⟨b2, hcase⟩
  have B2 := hid_of (Base.bel B1.out b2 (Nat.le_refl _))
  have H3 := hid_of (rof_call (.slice a l.length c) l w2 (HF.out.below B2.out) hbig)
  have HB12 := hid_of b2.size
  clear b2 H2
  rcases hcase with ⟨hA, rfl⟩ | ⟨hA, hU, rfl⟩ | ⟨hA, hU, b, rfl, rk⟩
  · go_wp2_with fail
    refine H3.out.mono ?_
    rintro e w3 ⟨b3, ⟨_, rfl⟩ | ⟨hA2, _⟩ | ⟨hA2, _⟩⟩
    rotate_left
    · exact absurd hA2 hA
    · exact absurd hA2 hA
    have B3 := hid_of (Base.bel B2.out b3 (Nat.le_refl _))
    have H5 := hid_of (sure_call w3 (HH.out.later B3.out))
    clear b3 H3
    go_wp2_with fail
    refine H5.out.mono ?_
    rintro e w5 hw5
    obtain ⟨rfl, b5⟩ := hw5
    have B5 := hid_of (Base.bel B3.out b5 (Nat.le_refl _))
    clear b5
    go_wp2_with fail
    go_ret
    exact ⟨rfl, B5.out⟩
  · go_wp2_with fail
    refine H3.out.mono ?_
    rintro e w3 ⟨b3, ⟨hA2, _⟩ | ⟨_, _, rfl⟩ | ⟨_, hU2, _⟩⟩
    · exact absurd hA hA2
    rotate_left
    · exact absurd hU2 hU
    have B3 := hid_of (Base.bel B2.out b3 (Nat.le_refl _))
    have H5 := hid_of (sure_call w3 (HH.out.later B3.out))
    clear b3 H3
    go_wp2_with fail
    refine H5.out.mono ?_
    rintro e w5 hw5
    obtain ⟨rfl, b5⟩ := hw5
    have B5 := hid_of (Base.bel B3.out b5 (Nat.le_refl _))
    clear b5
    go_wp2_with fail
    go_ret
    exact ⟨rfl, B5.out⟩
  · have qP := eqP' b
    clear H3
    have HS := hid_of (srtL_srt hU)
    have HU := hid_of (srtL_uq hU)
    have HLn : Hid ((srtL l).length = l.length) := hid_of (srtL_len l)
    have HL : Hid ((srtL l).length ≤ big) := hid_of (by rw [srtL_len]; exact hbig)
    have HKL : Hid (∀ p ∈ srtL l, p.1.length ≤ 140737488355328 ∧ May p.2) := hid_of fun p hp => ⟨HK.out p ((srtL_perm l).mem_iff.1 hp), hA p ((srtL_perm l).mem_iff.1 hp)⟩
    have HLs : Hid ((srtL l).length ≤ 5864062014634) := hid_of (by rw [srtL_len]; exact hn)
    clear hA hU hn hbig HLn HK HF
    generalize srtL l = L at *
    have R2 := hid_of rk
    have HWB : Hid (w.heap.size ≤ w1.heap.size) := hid_of B1.out.size
    obtain ⟨p, hpd⟩ : ∃ p, p = clampS n L.length := ⟨_, rfl⟩
    obtain ⟨q, hqd⟩ : ∃ q, q = clampS k (L.drop p).length := ⟨_, rfl⟩
    have HP := hid_of (show Parts L (L.take p) ((L.drop p).reverse.take q) ((L.drop p).take ((L.drop p).length - q)) p q from ⟨rfl, rfl, rfl, by rw [hpd]; exact clamp_le _ _, by rw [hqd, ← List.length_drop]; exact clamp_le _ _⟩)
    have H4 := hid_of (list_call rk HL.out)
    have H5 := hid_of fun (W : World) (hW : RK w1.heap.size b L W) (hB : w1.heap.size ≤ W.heap.size) => pop_call hW n false HL.out hB
    rw [← hpd, pop_f, left_f] at H5
    have H6 := hid_of fun (W : World) (hW : RK w1.heap.size b (L.drop p) W) (hB : w1.heap.size ≤ W.heap.size) => pop_call hW k true (by rw [List.length_drop]; have := HL.out; omega) hB
    rw [← hqd, pop_t, left_t] at H6
    have hmx : max 0 (min n (L.length : Int)) = ((p : Nat) : Int) := by rw [hpd]; exact (clamp_max _ _).symm
    clear hpd hqd
    generalize hA' : L.take p = A at *
    generalize hQ' : (L.drop p).reverse.take q = Q at *
    generalize hC' : (L.drop p).take ((L.drop p).length - q) = C at *
    have HA' := hid_of hA'
    have HC' := hid_of hC'
    have HQ' := hid_of hQ'
    clear hA' hQ' hC'
    unfold ptr at *
    go_wp2_with fail
    refine H4.out.mono ?_
    rintro e w3 ⟨vm, rfl, om, b3⟩
    obtain ⟨am, cm, rfl, hcm⟩ := or_shape om
    have M3 := hid_of (And.intro (row_mono om (Nat.zero_le _)) (And.intro (R2.out.below b3) (And.intro (Base.bel B2.out b3 (Nat.le_refl _)) (Nat.le_trans HB12.out b3.size))))
    clear om b3 H4 R2 rk
    go_wp2_with fail
    refine (H5.out w3 M3.out.2.1 M3.out.2.2.2).mono ?_
    rintro e w4 ⟨va, rfl, oa, rk4, ev4⟩
    obtain ⟨aa, ca', rfl, hca⟩ := or_shape oa
    have M4 := hid_of (And.intro (row_ev M3.out.1 ev4) (And.intro (row_mono oa (Nat.zero_le _)) (And.intro rk4 (And.intro (M3.out.2.2.1.trans ((ev4.below M3.out.2.2.2).mono HWB.out)) (Nat.le_trans M3.out.2.2.2 (ev4.below M3.out.2.2.2).size)))))
    clear oa rk4 ev4 M3 H5
    go_wp2_with fail
    refine (H6.out w4 M4.out.2.2.1 M4.out.2.2.2.2).mono ?_
    rintro e w5 ⟨vb, rfl, ob, rk5, ev5⟩
    obtain ⟨ab, cb, rfl, hcb⟩ := or_shape ob
    have S5 : Hid (St w w1.heap.size b C L A Q (.slice am L.length cm) (.slice aa A.length ca') (.slice ab Q.length cb) w5) := hid_of ⟨rk5, row_ev M4.out.1 ev5, row_ev M4.out.2.1 ev5, row_mono ob (Nat.zero_le _), M4.out.2.2.2.1.trans ((ev5.below M4.out.2.2.2.2).mono HWB.out), Nat.le_trans M4.out.2.2.2.2 (ev5.below M4.out.2.2.2.2).size⟩
    clear ob rk5 ev5 M4 H6
    have HLc : Hid (C.length ≤ big) := hid_of (by have h1 := HP.out.lenC; have h2 := HL.out; omega)
    have H7 := hid_of (list_call S5.out.rk HLc.out)
    unfold ptr at H7
    go_wp2_with fail
    refine H7.out.mono ?_
    rintro e w6 ⟨vc, rfl, oc, b6⟩
    obtain ⟨ac, cc, rfl, hcc⟩ := or_shape oc
    have S6 := hid_of (S5.out.below b6)
    have OC := hid_of oc
    clear oc b6 H7 S5
    have hlA : A.length = p := HP.out.lenA
    have HlB := hid_of HP.out.lenB
    have hlC : C.length = L.length - p - q := HP.out.lenC
    have hpL : p ≤ L.length := HP.out.hp
    have hqL : q ≤ L.length - p := HP.out.hq
    have hL9 : L.length ≤ 5864062014634 := HLs.out
    have s1 : Hid (∀ W, St w w1.heap.size b C L A Q (.slice am L.length cm) (.slice aa A.length ca') (.slice ab Q.length cb) W → Calls Tryz.prog 11 #[.slice aa A.length ca', .slice am p cm] W fun e w' => e = .returned (.bool true) ∧ Below W.heap.size W w') := hid_of fun W hW => by
      have f1 := (fs_row hW.m).take p HP.out.hp
      rw [HA'.out] at f1
      have h1 := same_call _ (.slice am p cm) A A W (fs_row hW.a) f1 (by have := HL.out; omega) (by have := HL.out; omega)
      rwa [decide_eq_true rfl] at h1
    have s2 : Hid (∀ W, St w w1.heap.size b C L A Q (.slice am L.length cm) (.slice aa A.length ca') (.slice ab Q.length cb) W → OR w5.heap.size W (.slice ac C.length cc) C → Calls Tryz.prog 11 #[.slice ac C.length cc, .slice (ca am cm p) C.length (cm - p)] W fun e w' => e = .returned (.bool true) ∧ Below W.heap.size W w') := hid_of fun W hW hO => by
      have f1 := (fs_row hW.m).drop p HP.out.hp
      have f2 : FS W (.slice (ca am cm p) (L.drop p).length (cm - p)) (L.drop p) := by rw [List.length_drop]; exact f1
      have f3 := f2.take C.length (by rw [List.length_drop, HP.out.lenC]; omega)
      rw [HP.out.mid] at f3
      have h1 := same_call _ (.slice (ca am cm p) C.length (cm - p)) C C W (fs_row hO) f3 HLc.out HLc.out
      rwa [decide_eq_true rfl] at h1
    have hcut1 : ∀ W, (Instr.slice 22 (.slice am L.length cm) none (some (.int .i64 (p : Int))) none).run Tryz.prog W = .ok (.slice am p cm) W := fun W => cut_hi am L.length cm p (by omega) W
    have hcut2 : ∀ W, (Instr.slice 22 (.slice am L.length cm) (some (.int .i64 (p : Int))) (some (.int .i64 ((p : Int) + (C.length : Int)))) none).run Tryz.prog W = .ok (.slice (ca am cm p) C.length (cm - p)) W := fun W => by
      have h1 := cut_any am L.length cm p (p + C.length) (by omega) (by omega) W
      rw [show p + C.length - p = C.length by omega, show (((p + C.length : Nat) : Int)) = (p : Int) + (C.length : Int) by omega] at h1
      exact h1
    have hS6 := S6.out
    rw [hlA] at hS6
    clear S6
    have S6 := hid_of hS6
    clear hS6
    rw [hlA] at *
    have e1 : IntKind.i64.wrap ((p : Int) + (Q.length : Int)) = (p : Int) + (Q.length : Int) := IntWalk.i64_in _ (by have := HlB.out; omega)
    have e2 : IntKind.i64.wrap ((p : Int) + (Q.length : Int) + (C.length : Int)) = (L.length : Int) := by have := HlB.out; rw [IntWalk.i64_in _ (by omega)]; omega
    have e2' : (p : Int) + (Q.length : Int) + (C.length : Int) = (L.length : Int) := by have := HlB.out; omega
    have e3 : ((L.length : Int) != (L.length : Int)) = false := by simp
    have e4 : ((p : Int) != (p : Int)) = false := by simp
    have e5 : IntKind.i64.wrap ((p : Int) + (C.length : Int)) = (p : Int) + (C.length : Int) := IntWalk.i64_in _ (by omega)
    have HCL := hid_of hlC
    clear hlA hlC
    go_wp2_with fail
    refine (s1.out w6 S6.out).mono ?_
    rintro e w7 ⟨rfl, b7⟩
    have S7 := hid_of (S6.out.below b7)
    have O7 := hid_of (row_below OC.out b7)
    clear b7 hmx S6 OC s1
    go_wp2_with fail
    refine (s2.out w7 S7.out O7.out).mono ?_
    rintro e w8 ⟨rfl, b8⟩
    have S8 := hid_of (S7.out.below b8)
    clear b8 S7 O7 s2 hcut1 hcut2 e1 e2 e2' e3 e4 e5 hcc
    have HZ : Hid ((C ++ Q ++ A).Perm L ∧ Uq (C ++ Q ++ A) ∧ (C ++ Q ++ A).length = L.length) := hid_of ⟨HP.out.perm, uq_perm HP.out.perm.symm HU.out, HP.out.perm.length_eq⟩
    have HZA : Hid (∀ i (hi : i < Q.length) (h2 : C.length + i < (C ++ Q ++ A).length), (C ++ Q ++ A)[C.length + i]'h2 = Q[i]'hi) := hid_of fun i hi h2 => by
      rw [List.getElem_append_left (by rw [List.length_append]; omega), List.getElem_append_right (by omega)]
      congr 1
      omega
    have HZB : Hid (∀ i (hi : i < A.length) (h2 : C.length + Q.length + i < (C ++ Q ++ A).length), (C ++ Q ++ A)[C.length + Q.length + i]'h2 = A[i]'hi) := hid_of fun i hi h2 => by
      rw [List.getElem_append_right (by rw [List.length_append]; omega)]
      congr 1
      rw [List.length_append]
      omega
    have HZ0 : Hid (C.Perm ((C ++ Q ++ A).take C.length) ∧ Srt C) := hid_of ⟨by rw [List.append_assoc, List.take_left' rfl], by rw [← HC'.out]; exact (HS.out.sublist ((List.take_sublist _ _).trans (List.drop_sublist _ _)))⟩
    have HAL : Hid (A.length = p) := hid_of HP.out.lenA
    obtain ⟨Z, hZd⟩ : ∃ Z, Z = C ++ Q ++ A := ⟨_, rfl⟩
    rw [← hZd] at HZ HZA HZB HZ0
    have HMZ : Hid (∀ e ∈ Z, e.1.length ≤ 140737488355328 ∧ May e.2) := hid_of fun e he => HKL.out e (HZ.out.1.mem_iff.1 he)
    have HXL : Hid (∀ (X : EL) j, X.Perm (Z.take j) → j < Z.length → X.length < big) := hid_of fun X j hp hj => by
      rw [hp.length_eq, List.length_take]
      have h1 := HZ.out.2.2
      have h2 := HL.out
      omega
    have HGB : Hid (∀ i (hi : i < Q.length) (h2 : L.length - 1 - i < L.length), Q[i]'hi = L[L.length - 1 - i]'h2) := hid_of fun i hi h2 => HP.out.getB hi h2
    have HQL : Hid (Q.length ≤ L.length ∧ C.length + Q.length + A.length = Z.length) := hid_of ⟨by have h1 := HlB.out; omega, by rw [hZd]; simp; omega⟩
    clear hZd
    go_wp2_with fail
    go_loopg [15] Q.length (fun g s15 wx => ∃ (i : Nat) (X : EL), i ≤ Q.length ∧ Q.length ≤ i + g ∧ s15 = .int .i64 (i : Int) ∧ Hid (Srt X ∧ X.Perm (Z.take (C.length + i))) ∧ Hid (St w w1.heap.size b X L A Q (.slice am L.length cm) (.slice aa p ca') (.slice ab Q.length cb) wx))
    case atStart => exact ⟨0, C, by omega, by omega, rfl, hid_of ⟨HZ0.out.2, HZ0.out.1⟩, S8⟩
    case round =>
      obtain ⟨i, X, hi, hg, rfl, HX, S⟩ := hrel
      by_cases hlt : i < Q.length
      · obtain ⟨g', rfl⟩ : ∃ g', gk = g' + 1 := ⟨gk - 1, by omega⟩
        have hLi : L.length - 1 - i < L.length := by have := HQL.out.1; omega
        have hZi : C.length + i < Z.length := by have := HQL.out.2; omega
        obtain ⟨gb, ob, eb, hatb⟩ := (fs_row S.out.b).at hlt
        obtain ⟨gm, om, em, hatm⟩ := (fs_row S.out.m).at hLi
        subst eb em
        obtain ⟨c0, c1⟩ := hatb i hlt
        obtain ⟨d0, d1⟩ := hatm _ hLi
        rw [← HGB.out i hlt hLi] at d0 d1
        obtain ⟨J, hJ⟩ : ∃ J, J = L.length - 1 - i := ⟨_, rfl⟩
        rw [← hJ] at d0 d1
        have hJ1 : J + 1 + i = L.length := by have := HQL.out.1; omega
        have hstep := PopsMath.step HZ.out.2.1 HX.out.1 HX.out.2 hZi
        have HSet := hid_of fun (W : World) (hW : RK w1.heap.size b X W) => set_call hW (Z[C.length + i]'hZi).1 (Z[C.length + i]'hZi).2 (HMZ.out _ (List.getElem_mem hZi)).1 (HXL.out X _ HX.out.2 hZi) (HMZ.out _ (List.getElem_mem hZi)).2
        rw [hstep.1] at HSet
        have HST := hid_of hstep.2
        rw [HZA.out i hlt hZi] at HSet HST
        have hne := Neq.neqE (Q[i]'hlt) (Q[i]'hlt)
        rw [decide_eq_false (by simp)] at hne
        have g1 : (i : Int) < (Q.length : Int) := by omega
        have g2 : (J : Int) < (L.length : Int) := by omega
        have f1 : IntKind.i64.wrap ((L.length : Int) - 1) = (L.length : Int) - 1 := IntWalk.i64_in _ (by omega)
        have f2 : IntKind.i64.wrap ((L.length : Int) - 1 - (i : Int)) = (J : Int) := by rw [IntWalk.i64_in _ (by omega)]; omega
        have f2' : (L.length : Int) - 1 - (i : Int) = (J : Int) := by omega
        have f3 : IntKind.i64.wrap ((i : Int) + 1) = (i : Int) + 1 := IntWalk.i64_in _ (by omega)
        have HCE : Hid (∀ W, OR 0 W (.slice (some ⟨gb, ob, none⟩) Q.length cb) Q → W.cell? ⟨gb, ob + i * 2, none⟩ = some (.string (mk (Q[i]'hlt).1)) ∧ W.cell? ⟨gb, ob + i * 2 + 1, none⟩ = some (.int .i64 (Q[i]'hlt).2)) := hid_of fun W hW => by
          obtain ⟨g2, o2, e2, h2⟩ := (fs_row hW).at hlt
          cases e2
          exact h2 i hlt
        clear hstep hatb hatm hJ hJ1
        generalize hX0 : Q[i]'hlt = E0 at *
        clear hX0
        obtain ⟨E1, E2⟩ := E0
        simp only at c0 c1 d0 d1 hne HSet HST HCE
        generalize mk E1 = Y at *
        go_wp2_with fail
        go_quiet (fail)
        have SQ := hid_of (S.out.below (bdrew (Below.refl _ wr) nq))
        go_wp2_with fail
        go_region_held3 (fun U => U.cell? ⟨gb, ob + i * 2, none⟩ = some (.string Y) ∧ U.cell? ⟨gb, ob + i * 2 + 1, none⟩ = some (.int .i64 E2)) (first | exact ⟨c0, c1⟩ | exact trivial | exact hB9) (first
          | (go_at_call 12; refine (HSet.out _ (SQ.out.below (Below.refl _ _).drew).rk).mono ?_; rintro e w9 ⟨rfl, r9, ev9⟩; have S9 := hid_of ((SQ.out.below (Below.refl _ _).drew).ev HWB.out r9 ev9); have hB9 : w9.cell? ⟨gb, ob + i * 2, none⟩ = some (.string Y) ∧ w9.cell? ⟨gb, ob + i * 2 + 1, none⟩ = some (.int .i64 E2) := HCE.out w9 S9.out.b))
        go_wp2_with fail
        go_roundg g'
        case measure => omega
        case rel => exact ⟨i + 1, setE X E1 E2, by omega, by omega, by rw [show ((i + 1 : Nat) : Int) = (i : Int) + 1 from by omega], HST, S9⟩
      · have gi : ¬ (i : Int) < (Q.length : Int) := by omega
        obtain rfl : i = Q.length := by omega
        clear hlt
        go_wp2_with fail
        go_loopg [18] p (fun g s18 wx => ∃ (i : Nat) (X : EL), i ≤ p ∧ p ≤ i + g ∧ s18 = .int .i64 (i : Int) ∧ Hid (Srt X ∧ X.Perm (Z.take (C.length + Q.length + i))) ∧ Hid (St w w1.heap.size b X L A Q (.slice am L.length cm) (.slice aa p ca') (.slice ab Q.length cb) wx))
        case atStart => exact ⟨0, X, by omega, by omega, rfl, HX, S⟩
        case round =>
          clear S HX hi hg gi
          obtain ⟨i, X, hi, hg, rfl, HX, S⟩ := hrel
          by_cases hlt : i < p
          · obtain ⟨g', rfl⟩ : ∃ g', gk = g' + 1 := ⟨gk - 1, by omega⟩
            have hAi : i < A.length := by have := HAL.out; omega
            have hZi : C.length + Q.length + i < Z.length := by have := HQL.out.2; omega
            have hOA := S.out.a
            obtain ⟨gb, ob, eb, hatb⟩ := (fs_row hOA).at hAi
            subst eb
            obtain ⟨c0, c1⟩ := hatb i hAi
            have hstep := PopsMath.step HZ.out.2.1 HX.out.1 HX.out.2 hZi
            have HSet := hid_of fun (W : World) (hW : RK w1.heap.size b X W) => set_call hW (Z[C.length + Q.length + i]'hZi).1 (Z[C.length + Q.length + i]'hZi).2 (HMZ.out _ (List.getElem_mem hZi)).1 (HXL.out X _ HX.out.2 hZi) (HMZ.out _ (List.getElem_mem hZi)).2
            rw [hstep.1] at HSet
            have HST := hid_of hstep.2
            rw [HZB.out i hAi hZi] at HSet HST
            have g1 : (i : Int) < (p : Int) := by omega
            have f3 : IntKind.i64.wrap ((i : Int) + 1) = (i : Int) + 1 := IntWalk.i64_in _ (by omega)
            have HCE : Hid (∀ W, OR 0 W (.slice (some ⟨gb, ob, none⟩) p ca') A → W.cell? ⟨gb, ob + i * 2, none⟩ = some (.string (mk (A[i]'hAi).1)) ∧ W.cell? ⟨gb, ob + i * 2 + 1, none⟩ = some (.int .i64 (A[i]'hAi).2)) := hid_of fun W hW => by
              obtain ⟨g2, o2, e2, h2⟩ := (fs_row hW).at hAi
              cases e2
              exact h2 i hAi
            clear hstep hatb hOA
            generalize hX0 : A[i]'hAi = E0 at *
            clear hX0
            obtain ⟨E1, E2⟩ := E0
            simp only at c0 c1 HSet HST HCE
            generalize mk E1 = Y at *
            go_wp2_with fail
            go_region_held3 (fun U => U.cell? ⟨gb, ob + i * 2, none⟩ = some (.string Y) ∧ U.cell? ⟨gb, ob + i * 2 + 1, none⟩ = some (.int .i64 E2)) (first | exact ⟨c0, c1⟩ | exact trivial | exact hB9) (first
              | (go_at_call 12; refine (HSet.out _ (S.out.below (Below.refl _ _).drew).rk).mono ?_; rintro e w9 ⟨rfl, r9, ev9⟩; have S9 := hid_of ((S.out.below (Below.refl _ _).drew).ev HWB.out r9 ev9); have hB9 : w9.cell? ⟨gb, ob + i * 2, none⟩ = some (.string Y) ∧ w9.cell? ⟨gb, ob + i * 2 + 1, none⟩ = some (.int .i64 E2) := HCE.out w9 S9.out.a))
            go_wp2_with fail
            go_roundg g'
            case measure => omega
            case rel => exact ⟨i + 1, setE X E1 E2, by omega, by omega, by rw [show ((i + 1 : Nat) : Int) = (i : Int) + 1 from by omega], HST, S9⟩
          · have gi : ¬ (i : Int) < (p : Int) := by omega
            obtain rfl : i = p := by omega
            have HXE : Hid (X = L) := hid_of (by
              have h1 := HX.out.2
              rw [List.take_of_length_le (by have := HQL.out.2; have := HAL.out; omega)] at h1
              have h2 := srtL_is (h1.trans HZ.out.1) HX.out.1 HU.out
              rw [srtL_self HS.out HU.out] at h2
              exact h2)
            have SL := hid_of S.out
            rw [HXE.out] at SL
            have H10 := hid_of (list_call SL.out.rk HL.out)
            unfold ptr at H10
            clear hlt S HX HXE
            go_wp2_with fail
            refine H10.out.mono ?_
            rintro e w9 ⟨v9, rfl, o9, b9⟩
            obtain ⟨a9, c9, rfl, _⟩ := or_shape o9
            have S9 := hid_of (SL.out.below b9)
            have H11 := hid_of (same_call _ _ L L w9 (fs_row o9) (fs_row S9.out.m) HL.out HL.out)
            rw [decide_eq_true rfl] at H11
            clear o9 b9 H10
            go_wp2_with fail
            refine H11.out.mono ?_
            rintro e w10 hw10
            obtain ⟨rfl, b10⟩ := hw10
            have S10 := hid_of (S9.out.below b10)
            have H12 := hid_of (sure_call w10 (HH.out.later S10.out.low))
            clear b10 H11
            go_wp2_with fail
            refine H12.out.mono ?_
            rintro e w12 hw12
            obtain ⟨rfl, b12⟩ := hw12
            have C12 := hid_of (Base.bel S10.out.low b12 (Nat.le_refl _))
            clear b12
            go_wp2_with fail
            go_ret
            exact ⟨rfl, C12.out⟩
end Go.Proofs.YtighoelipihifabGreatDoor.Pops
