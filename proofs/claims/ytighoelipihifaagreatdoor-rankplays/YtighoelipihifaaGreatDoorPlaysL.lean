/- The law RankPlays. -/
import Derived.Test.YtighoelipihifaaGreatDoorPlaysG
import Derived.Test.YtighoelipihifaaGreatDoorPlaysH2
import Derived.Test.YtighoelipihifaaGreatDoorPlaysH3
import Derived.Test.YtighoelipihifaaGreatDoorOpenO
import Derived.Test.YtighoelipihifaaGreatDoorTwin
import Derived.Test.YtighoelipihifaaGreatDoorSure
namespace Go.Proofs.YtighoelipihifaaGreatDoor.PlaysL
open Go.RowKit Go.Maps Go.Sort
open Go.Proofs.YtighoelipihifaaGreatDoor.MapMath
open Go.Proofs.YtighoelipihifaaGreatDoor.RankMath
open Go.Proofs.YtighoelipihifaaGreatDoor.RankMath2
open Go.Proofs.YtighoelipihifaaGreatDoor.RankMath3
open Go.Proofs.YtighoelipihifaaGreatDoor.Base
open Go.Proofs.YtighoelipihifaaGreatDoor.Rank1
open Go.Proofs.YtighoelipihifaaGreatDoor.Run
open Go.Proofs.YtighoelipihifaaGreatDoor.Of
open Go.Proofs.YtighoelipihifaaGreatDoor.Twin
open Go.Proofs.YtighoelipihifaaGreatDoor.Ref1
open Go.Proofs.YtighoelipihifaaGreatDoor.Sure
open Go.Proofs.YtighoelipihifaaGreatDoor.PlaysF
open Go.Proofs.YtighoelipihifaaGreatDoor.PlaysG
open Go.Proofs.YtighoelipihifaaGreatDoor.OpenO
open Go.Proofs.YtighoelipihifaaGreatDoor.Parse (Has)
set_option linter.unusedVariables false
set_option linter.unusedSimpArgs false
theorem step_any {B b : Nat} {m : EL} {v : Value} {w : World} (h : RK B b m w) (f : FS w v m) (kp : Kp B w v) (hB : B ≤ w.heap.size) (hn : m.length < big) (x : OpD) (ok' : OpOk x) : Calls Tryz.prog 14 #[ptr b, v, .agg (opC x)] w (StE B b m w) := by
  by_cases k0 : x.K = 0
  · by_cases hm : May x.A
    · exact step_set h f kp hB hn x ok' k0 hm
    · exact step_setno h f kp hB hn x ok' k0 hm
  by_cases k2 : x.K = 2
  · exact step_drop h f kp hB hn x ok' k2
  by_cases k3 : x.K = 3
  · exact step_place h f kp hB hn x ok' k3
  by_cases k4 : x.K = 4
  · exact PlaysH.step_slice h f kp hB hn x ok' k4
  by_cases k5 : x.K = 5
  · exact PlaysH2.step_scores h f kp hB hn x ok' k5
  by_cases k6 : x.K = 6
  · exact PlaysH3.step_names h f kp hB hn x ok' k6
  by_cases k7 : x.K = 7
  · exact step_pop h f kp hB hn x ok' k7
  cases ho : ok m x.nm with
  | true => exact step_else_yes h f kp hB hn x ok' k0 k2 k3 k4 k5 k6 k7 ho
  | false => exact step_else_no h f kp hB hn x ok' k0 k2 k3 k4 k5 k6 k7 ho
theorem eqP (a : Nat) (w : World) : (binOp .eql 24 (.pointer (some ⟨a, 0, none⟩)) (.pointer none)).run Tryz.prog w = .ok (.bool false) w := by kernel_rfl
structure Lv (w : World) (B b : Nat) (m : EL) (v : Value) (n : Nat) (W : World) : Prop where
  rk : RK B b m W
  fs : FS W v m
  kp : Kp B W v
  len : m.length ≤ n
  low : Below w.heap.size w W
  hB : B ≤ W.heap.size
set_option maxHeartbeats 8000000 in
set_option maxRecDepth 100000 in
theorem plays_call (v ov : Value) (l : EL) (ops : List OpD) (w : World) (h : FS w v l) (hO : OSl w ov ops) (hn : l.length ≤ 5864062014634) (hk : ∀ p ∈ l, p.1.length ≤ 140737488355328) (hh : Has w) : Calls Tryz.prog 4 #[v, ov] w fun e w' => e = .returned (.bool true) ∧ Below w.heap.size w w' := by
  have hbig : l.length ≤ big := Nat.le_trans hn (by decide)
  have HF := hid_of h
  have HH := hid_of hh
  have HK := hid_of hk
  have HOO := hid_of hO
  have H1 := hid_of (twin_call v l w h hbig)
  obtain ⟨oa, oc, rfl, hat⟩ := hO.at'
  have HAT := hid_of hat
  have hlen := hO.len
  obtain ⟨N, HN⟩ : ∃ N, Hid (N = ops.length) := ⟨_, hid_of rfl⟩
  rw [← HN.out] at hlen ⊢
  obtain ⟨a, c, rfl, hc, h'⟩ := h
  clear h' hk hh hat hO
  go_enter Tryz.func4, Tryz.ntmps4
  go_wp2_with fail
  refine H1.out.mono ?_
  rintro e w1 ⟨v1, rfl, o1, b1⟩
  have H2 := hid_of (of_call v1 l w1 (fs_row o1) hbig HK.out)
  have B1 := hid_of b1
  clear o1 b1 H1
  go_wp2_with fail
  refine H2.out.mono ?_
  rintro e w2 ⟨b2, hcase⟩
  have B2 := hid_of (Base.bel B1.out b2 (Nat.le_refl _))
  have H3 := hid_of (rof_call (.slice a l.length c) l w2 (HF.out.below B2.out) hbig)
  have HB12 := hid_of b2.size
  clear b2 H2
  rcases hcase with ⟨hA, rfl⟩ | ⟨hA, hU, rfl⟩ | ⟨hA, hU, b, rfl, rk⟩
  · go_wp2_with fail
    refine H3.out.mono ?_
    rintro e w3 ⟨b3, ⟨_, rfl⟩ | ⟨hA2, _⟩ | ⟨hA2, _⟩⟩
    rotate_left
    · exact absurd hA2 hA
    · exact absurd hA2 hA
    have B3 := hid_of (Base.bel B2.out b3 (Nat.le_refl _))
    have H5 := hid_of (sure_call w3 (HH.out.later B3.out))
    clear b3 H3
    go_wp2_with fail
    refine H5.out.mono ?_
    rintro e w5 hw5
    obtain ⟨rfl, b5⟩ := hw5
    have B5 := hid_of (Base.bel B3.out b5 (Nat.le_refl _))
    clear b5
    go_wp2_with fail
    go_ret
    exact ⟨rfl, B5.out⟩
  · go_wp2_with fail
    refine H3.out.mono ?_
    rintro e w3 ⟨b3, ⟨hA2, _⟩ | ⟨_, _, rfl⟩ | ⟨_, hU2, _⟩⟩
    · exact absurd hA hA2
    rotate_left
    · exact absurd hU2 hU
    have B3 := hid_of (Base.bel B2.out b3 (Nat.le_refl _))
    have H5 := hid_of (sure_call w3 (HH.out.later B3.out))
    clear b3 H3
    go_wp2_with fail
    refine H5.out.mono ?_
    rintro e w5 hw5
    obtain ⟨rfl, b5⟩ := hw5
    have B5 := hid_of (Base.bel B3.out b5 (Nat.le_refl _))
    clear b5
    go_wp2_with fail
    go_ret
    exact ⟨rfl, B5.out⟩
  · have R2 := hid_of rk
    have HWB : Hid (w.heap.size ≤ w1.heap.size) := hid_of B1.out.size
    have HLs : Hid ((srtL l).length = l.length) := hid_of (srtL_len l)
    have qP := eqP b
    clear rk HK
    go_wp2_with fail
    refine H3.out.mono ?_
    rintro e w3 ⟨b3, ⟨hA2, _⟩ | ⟨_, hU2, _⟩ | ⟨_, _, v3, rfl, o3⟩⟩
    · exact absurd hA hA2
    · exact absurd hU hU2
    obtain ⟨a3, c3, hv3, _⟩ := id (fs_row o3)
    rw [HLs.out] at hv3
    subst hv3
    have S3 : Hid (Lv w w1.heap.size b (srtL l) (.slice a3 l.length c3) (l.length + 0) w3) := hid_of ⟨R2.out.below b3, fs_row o3, kp_row o3, by rw [HLs.out]; exact Nat.le_refl _, Base.bel B2.out b3 (Nat.le_refl _), Nat.le_trans HB12.out b3.size⟩
    clear b3 o3 H3 R2 hA hU
    unfold ptr at *
    go_wp2_with fail
    go_loopg [7, 9] N (fun g s7 s9 wx => ∃ (i : Nat) (m : EL) (va : Option Addr) (vc : Nat), i ≤ N ∧ N ≤ i + g ∧ s7 = .slice va m.length vc ∧ s9 = .int .i64 (i : Int) ∧ Hid (Lv w w1.heap.size b m (.slice va m.length vc) (l.length + i) wx))
    case atStart => exact ⟨0, srtL l, a3, c3, by omega, by omega, by rw [HLs.out], rfl, by rw [HLs.out]; exact S3⟩
    case round =>
      obtain ⟨i, m, va, vc, hi, hg, rfl, rfl, S⟩ := hrel
      by_cases hlt : i < N
      · obtain ⟨g', rfl⟩ : ∃ g', gk = g' + 1 := ⟨gk - 1, by omega⟩
        have hil : i < ops.length := by rw [← HN.out]; exact hlt
        obtain ⟨gd, od, rfl, hcc⟩ : ∃ g o, oa = some ⟨g, o, none⟩ ∧ ∀ i x, ops[i]? = some x → OCell w g (o + i * 13) x := by
          rcases HAT.out with e | q
          · rw [e] at hil; simp at hil
          · exact q
        have hc := hcc i _ (List.getElem?_eq_getElem hil)
        have hok := HOO.out.ok _ (List.getElem_mem hil)
        have hcr : ∀ o v, w.cell? ⟨gd, o, none⟩ = some v → wr.cell? ⟨gd, o, none⟩ = some v := fun o v e => cell_on S.out.low e
        have d0 := hcr _ _ hc.c0
        have d1 := hcr _ _ hc.c1
        have d2 := hcr _ _ hc.c2
        have d3 := hcr _ _ hc.c3
        have d4 := hcr _ _ hc.c4
        have d5 := hcr _ _ hc.c5
        have d6 := hcr _ _ hc.c6
        have d7 := hcr _ _ hc.c7
        have d8 := hcr _ _ hc.c8
        have d9 := hcr _ _ hc.c9
        have d10 := hcr _ _ hc.c10
        have d11 := hcr _ _ hc.c11
        have d12 := hcr _ _ hc.c12
        have hml : m.length < big := Nat.lt_of_le_of_lt S.out.len (by unfold big; omega)
        have HSt := hid_of (step_any S.out.rk S.out.fs S.out.kp S.out.hB hml ops[i] hok)
        unfold opC at HSt
        generalize ops[i] = x at *
        obtain ⟨K, nm, A, Bq, ⟨li, lp, ls, ln⟩, ⟨ui, up, us, un⟩, tn⟩ := x
        dsimp only at d0 d1 d2 d3 d4 d5 d6 d7 d8 d9 d10 d11 d12 HSt
        have e2 : IntKind.i64.wrap ((i : Int) + 1) = (i : Int) + 1 := IntWalk.i64_in _ (by omega)
        have g2 : (i : Int) < (N : Int) := by omega
        clear hcc hc hok hcr
        unfold ptr at HSt
        go_wp2_with fail
        refine HSt.out.mono ?_
        rintro e w4 ⟨v4, m4, rfl, r4, f4, k4, ev4, l4⟩
        have S4 : Hid (Lv w w1.heap.size b m4 v4 (l.length + (i + 1)) w4) := hid_of ⟨r4, f4, k4, by have := S.out.len; omega, S.out.low.trans ((ev4.below S.out.hB).mono HWB.out), Nat.le_trans S.out.hB (ev4.below S.out.hB).size⟩
        have H6 := hid_of (len_call r4)
        unfold ptr at H6
        obtain ⟨a4, c4, rfl, _⟩ := id f4
        clear r4 f4 k4 ev4 l4 HSt d0 d1 d2 d3 d4 d5 d6 d7 d8 d9 d10 d11 d12
        go_wp2_with fail
        refine H6.out.mono ?_
        rintro e w5 ⟨rfl, hw5⟩
        rw [hw5]
        clear hw5
        go_wp2_with fail
        go_roundg g'
        case measure => omega
        case rel => exact ⟨i + 1, m4, a4, c4, by omega, by omega, rfl, by rw [show ((i + 1 : Nat) : Int) = (i : Int) + 1 from by omega], S4⟩
      · have gi : ¬ (i : Int) < (N : Int) := by omega
        have hml : m.length ≤ big := Nat.le_trans S.out.len (by unfold big; omega)
        have HLb := hid_of hml
        have H7 := hid_of (list_call S.out.rk hml)
        unfold ptr at H7
        go_wp2_with fail
        refine H7.out.mono ?_
        rintro e w6 ⟨v6, rfl, o6, b6⟩
        obtain ⟨a6, c6, hv6, _⟩ := id (fs_row o6)
        subst hv6
        have H8 := hid_of (same_call _ _ m m w6 (fs_row o6) (S.out.fs.below b6) HLb.out HLb.out)
        rw [decide_eq_true rfl] at H8
        have B6 := hid_of (Base.bel S.out.low b6 (Nat.le_refl _))
        clear o6 b6 H7
        go_wp2_with fail
        refine H8.out.mono ?_
        rintro e w7 hw7
        obtain ⟨rfl, b7⟩ := hw7
        have B7 := hid_of (Base.bel B6.out b7 (Nat.le_refl _))
        have H9 := hid_of (sure_call w7 (HH.out.later B7.out))
        clear b7 H8
        go_wp2_with fail
        refine H9.out.mono ?_
        rintro e w8 hw8
        obtain ⟨rfl, b8⟩ := hw8
        have B8 := hid_of (Base.bel B7.out b8 (Nat.le_refl _))
        clear b8
        go_wp2_with fail
        go_ret
        exact ⟨rfl, B8.out⟩
end Go.Proofs.YtighoelipihifaaGreatDoor.PlaysL
