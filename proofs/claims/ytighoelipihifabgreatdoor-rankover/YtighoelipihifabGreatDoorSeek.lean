/- Places and intervals of scores. -/
import Derived.Test.YtighoelipihifabGreatDoorBound
namespace Go.Proofs.YtighoelipihifabGreatDoor.Seek
open Go.RowKit Go.Maps Go.Sort
open Go.Proofs.YtighoelipihifabGreatDoor.MapMath
open Go.Proofs.YtighoelipihifabGreatDoor.RankMath
open Go.Proofs.YtighoelipihifabGreatDoor.RankMath2
open Go.Proofs.YtighoelipihifabGreatDoor.RankMath3
open Go.Proofs.YtighoelipihifabGreatDoor.Base
open Go.Proofs.YtighoelipihifabGreatDoor.Cmp
open Go.Proofs.YtighoelipihifabGreatDoor.Tree
open Go.Proofs.YtighoelipihifabGreatDoor.First
open Go.Proofs.YtighoelipihifabGreatDoor.Rank1
open Go.Proofs.YtighoelipihifabGreatDoor.Run
open Go.Proofs.YtighoelipihifabGreatDoor.Bound
set_option linter.unusedVariables false

set_option maxRecDepth 100000 in
theorem rlead_nil (fv : Value) (w : World) : Calls Tryz.prog 41 #[.pointer none, fv] w fun e w' => e = .returned (.int .i64 0) ∧ w' = w := by
  go_enter Tryz.func41, Tryz.ntmps41
  go_wp2
  go_ret
  exact ⟨rfl, rfl⟩
set_option maxHeartbeats 1000000 in
set_option maxRecDepth 100000 in
theorem rlead_call {B b : Nat} {l : EL} {w : World} (h : RK B b l w) (p : Ent → Bool) (g0 : Nat) (cb : Array Value) (hd : Dn p l) (hn : l.length ≤ big)
    (eg : ∀ args w, (callFunc g0 args).run Tryz.prog w = .ok (.enter g0 args) w)
    (hp : ∀ (x : Ent) W, x ∈ l → Below w.heap.size w W → Calls Tryz.prog g0 (#[eV x] ++ cb) W fun e w' => e = .returned (.bool (p x)) ∧ Below W.heap.size W w') :
    Calls Tryz.prog 41 #[ptr b, .func (.func g0) #[] cb] w fun e w' => e = .returned (.int .i64 (l.countP p : Int)) ∧ Below w.heap.size w w' := by
  obtain ⟨m, t, ml, h⟩ := h
  have c1 := h.c1
  have H := hid_of (lead_call t p g0 cb w h.tr (by rw [h.list]; exact hd) (by rw [h.list]; exact hn) eg (by rw [h.list]; exact hp))
  rw [h.list] at H
  clear h hp hd eg
  unfold ptr
  unfold T.ptr at *
  generalize t.addr = A at *
  go_enter Tryz.func41, Tryz.ntmps41
  go_wp2_with fail
  refine H.out.mono ?_
  rintro e w1 hw1
  obtain ⟨rfl, bb⟩ := hw1
  have HB := hid_of bb
  clear bb
  go_wp2_with fail
  go_ret
  exact ⟨rfl, HB.out⟩
set_option maxHeartbeats 1000000 in
set_option maxRecDepth 100000 in
theorem clo_place (own e : Ent) (g : Nat) (w : World) (h0 : w.cell? ⟨g, 0, none⟩ = some (.string (mk own.1))) (h1 : w.cell? ⟨g, 1, none⟩ = some (.int .i64 own.2)) : Calls Tryz.prog 42 (#[eV e] ++ #[.pointer (some ⟨g, 0, none⟩)]) w fun z w' => z = .returned (.bool (ltb e own)) ∧ Below w.heap.size w w' := by
  have H1 := hid_of (compare_b e own)
  have bA := bnew w (.cells #[.string (mk e.1), .int .i64 e.2] 35)
  have d0 := cell_on bA h0
  have d1 := cell_on bA h1
  have HA := hid_of bA
  have HL : Hid (ltb e own = decide (cmpE e own < 0)) := hid_of (by unfold ltb; rw [decide_eq_decide]; exact (cmpE_lt e own).symm)
  clear h0 h1 bA
  show Calls Tryz.prog 42 #[eV e, .pointer (some ⟨g, 0, none⟩)] w _
  rw [HL.out]
  unfold eV at *
  generalize cmpE e own = CC at *
  generalize mk e.1 = Y at *
  generalize e.2 = yy at *
  generalize mk own.1 = X at *
  generalize own.2 = xx at *
  go_enter Tryz.func42, Tryz.ntmps42
  go_wp2_with fail
  refine (H1.out _).mono ?_
  rintro z w2 hz2
  obtain ⟨rfl, bb⟩ := hz2
  have HB := hid_of bb
  clear bb
  go_wp2_with fail
  go_ret
  exact ⟨rfl, Base.bel HA.out HB.out (Nat.le_refl _)⟩
def placeS (l : EL) (k : Bs) (r : Bool) : Int := if ok l k then (if r then (l.length : Int) - 1 - plc l k else plc l k) else 0
set_option maxRecDepth 100000 in
theorem place_nil (s : ByteArray) (r : Bool) (w : World) : Calls Tryz.prog 24 #[.pointer none, .string s, .bool r] w fun e w' => e = .returned (.tuple #[.int .i64 0, .bool false]) ∧ w' = w := by
  have H := hid_of (score_nil s w)
  go_enter Tryz.func24, Tryz.ntmps24
  go_wp2_with fail
  refine H.out.mono ?_
  rintro e w1 hw1
  obtain ⟨rfl, rfl⟩ := hw1
  go_wp2_with fail
  go_ret2
  exact ⟨rfl, rfl⟩
set_option maxHeartbeats 2000000 in
set_option maxRecDepth 100000 in
theorem place_call {B b : Nat} {l : EL} {w : World} (h : RK B b l w) (k : Bs) (r : Bool) (hk : k.length ≤ 140737488355328) (hn : l.length ≤ big) : Calls Tryz.prog 24 #[ptr b, .string (mk k), .bool r] w fun e w' => e = .returned (.tuple #[.int .i64 (placeS l k r), .bool (ok l k)]) ∧ Below w.heap.size w w' := by
  have H1 := hid_of (score_call h k hk)
  cases ho : ok l k with
  | false =>
    rw [ho] at H1
    have HP : Hid (placeS l k r = 0) := hid_of (by unfold placeS; rw [ho]; rfl)
    generalize valI l k = vv at *
    generalize mk k = K at *
    clear h ho
    unfold ptr at *
    go_enter Tryz.func24, Tryz.ntmps24
    go_wp2_with fail
    refine H1.out.mono ?_
    rintro e w1 hw1
    obtain ⟨rfl, hww⟩ := hw1
    subst hww
    go_wp2_with fail
    go_ret2
    exact ⟨by rw [HP.out]; rfl, Below.refl _ _⟩
  | true =>
    rw [ho] at H1
    obtain ⟨s, hs⟩ : ∃ s, lkp l k = some s := by unfold ok at ho; exact Option.isSome_iff_exists.1 ho
    have hv : valI l k = s := by unfold valI; rw [hs]; rfl
    rw [hv] at H1
    obtain ⟨V, hV⟩ : ∃ V, V = w.alloc (.cells #[.string (mk k), .int .i64 s] 35) := ⟨_, rfl⟩
    have bA : Below w.heap.size w V := by rw [hV]; exact bnew w _
    have q0 : V.cell? ⟨w.heap.size, 0, none⟩ = some (.string (mk k)) := by rw [hV]; simp
    have q1 : V.cell? ⟨w.heap.size, 1, none⟩ = some (.int .i64 s) := by rw [hV]; simp
    have hsr : Srt l ∧ Uq l := by obtain ⟨m, t, ml, h⟩ := h; exact ⟨h.srt, h.uq⟩
    have H2 := hid_of (rlead_call (h.below bA) (fun y => ltb y (k, s)) 42 #[.pointer (some ⟨w.heap.size, 0, none⟩)] (srt_dn hsr.1 fun x y hxy hy => ltb_t.2 (ltE_trans hxy (ltb_t.1 hy))) hn (enters_of Tryz.func42 (by kernel_rfl) rfl) (fun x W _ hW => clo_place (k, s) x w.heap.size W (cell_on hW q0) (cell_on hW q1)))
    rw [plc_cnt hsr.1 hsr.2 hs] at H2
    have HLN : Hid (∀ W, Below w.heap.size w W → Calls Tryz.prog 28 #[ptr b] W fun e w' => e = .returned (.int .i64 (l.length : Int)) ∧ w' = W) := hid_of fun W hW => len_call (h.below hW)
    have hpl := plc_lt ho
    have HP : Hid (placeS l k r = if r then (l.length : Int) - 1 - plc l k else plc l k) := hid_of (by unfold placeS; rw [if_pos ho])
    have e1 : IntKind.i64.wrap ((l.length : Int) - 1) = (l.length : Int) - 1 := IntWalk.i64_in _ (by unfold big at hn; omega)
    have e2 : IntKind.i64.wrap ((l.length : Int) - 1 - (plc l k : Int)) = (l.length : Int) - 1 - (plc l k : Int) := IntWalk.i64_in _ (by unfold big at hn; omega)
    have HA := hid_of bA
    have HV := hid_of hV
    clear hV h ho hs hv q0 q1 hsr bA hpl
    unfold ptr at *
    generalize placeS l k r = PS at *
    generalize plc l k = PP at *
    generalize mk k = K at *
    go_enter Tryz.func24, Tryz.ntmps24
    go_wp2_with fail
    refine H1.out.mono ?_
    rintro e w1 hw1
    obtain ⟨rfl, hww⟩ := hw1
    rw [hww]
    clear hww w1
    go_wp2_with fail
    rw [← HV.out]
    refine H2.out.mono ?_
    rintro e w2 hw2
    obtain ⟨rfl, bb⟩ := hw2
    have HB : Hid (Below w.heap.size w w2) := hid_of (Base.bel HA.out bb (Nat.le_refl _))
    clear bb
    cases r with
    | false =>
      go_wp2_with fail
      go_ret2
      exact ⟨by rw [HP.out]; rfl, HB.out⟩
    | true =>
      have H3 := hid_of (HLN.out w2 HB.out)
      go_wp2_with fail
      refine H3.out.mono ?_
      rintro e w3 hw3
      obtain ⟨rfl, hww⟩ := hw3
      rw [hww]
      clear hww w3
      go_wp2_with fail
      go_ret2
      exact ⟨by rw [HP.out]; rfl, HB.out⟩
/- slices by places -/
set_option maxHeartbeats 4000000 in
set_option maxRecDepth 100000 in
theorem slice_gen (p : Value) (L : EL) (f t : Int) (r : Bool) (w : World) (hn : L.length ≤ big) (hf1 : -9223372036854775808 ≤ f) (hf2 : f ≤ 9223372036854775807) (ht1 : -9223372036854775808 ≤ t) (ht2 : t ≤ 9223372036854775807)
    (hl : Calls Tryz.prog 28 #[p] w fun e w' => e = .returned (.int .i64 (L.length : Int)) ∧ w' = w)
    (hr : ∀ f' n' : Nat, f' + n' ≤ L.length → Calls Tryz.prog 31 #[p, .int .i64 (f' : Int), .int .i64 (n' : Int), .bool r] w fun e w' => RunE (runS L f' n' r) w e w') :
    Calls Tryz.prog 14 #[p, .int .i64 f, .int .i64 t, .bool r] w fun e w' => RunE (slS L f t r) w e w' := by
  have H1 := hid_of hl
  obtain ⟨N, hN⟩ : ∃ N, N = L.length := ⟨_, rfl⟩
  have HS : Hid (slS L f t r = if toS N t < fromS N f then [] else runS L (fromS N f).toNat (toS N t - fromS N f + 1).toNat r) := hid_of (by rw [hN]; rfl)
  obtain ⟨F, hF⟩ : ∃ F, F = fromS N f := ⟨_, rfl⟩
  obtain ⟨U, hU⟩ : ∃ U, U = toS N t := ⟨_, rfl⟩
  rw [← hF, ← hU] at HS
  rw [← hN] at H1
  have hNb : N ≤ 9000000000000 := by unfold big at hn; omega
  have hU1 : U ≤ (N : Int) - 1 := by rw [hU]; unfold toS; omega
  have hF0 : 0 ≤ F := by rw [hF]; unfold fromS; split <;> omega
  have e5 : IntKind.i64.wrap ((N : Int) - 1) = (N : Int) - 1 := IntWalk.i64_in _ (by omega)
  have HEND : Hid (¬ U < F → Calls Tryz.prog 31 #[p, .int .i64 F, .int .i64 (U - F + 1), .bool r] w fun e w' => RunE (runS L F.toNat (U - F + 1).toNat r) w e w') := hid_of fun hq => by
    have h0 := hr F.toNat (U - F + 1).toNat (by omega)
    rw [show ((F.toNat : Nat) : Int) = F from by omega, show (((U - F + 1).toNat : Nat) : Int) = U - F + 1 from by omega] at h0
    exact h0
  unfold fromS at hF
  unfold toS at hU
  clear hl hr hN
  by_cases hf : f < 0
  · by_cases ht : t < 0
    · rw [if_pos hf] at hF
      rw [if_pos ht] at hU
      have e1 : IntKind.i64.wrap (f + (N : Int)) = f + (N : Int) := IntWalk.i64_in _ (by omega)
      have e2 : max (f + (N : Int)) 0 = F := hF.symm
      have e3 : IntKind.i64.wrap (t + (N : Int)) = t + (N : Int) := IntWalk.i64_in _ (by omega)
      have e4 : min (t + (N : Int)) ((N : Int) - 1) = U := hU.symm
      have hUl : -9223372036854775808 ≤ U := by omega
      by_cases hq : U < F
      · have HZ : Hid (RunE (slS L f t r) w (.returned (.slice none 0 0)) w) := hid_of (by rw [HS.out, if_pos hq]; exact ⟨_, rfl, or_nil _ _, Below.refl _ _⟩)
        clear HS HEND hF hU
        go_enter Tryz.func14, Tryz.ntmps14
        go_wp2_with fail
        refine H1.out.mono ?_
        rintro e w1 hw1
        obtain ⟨rfl, hww⟩ := hw1
        rw [hww]
        clear hww w1
        go_wp2_with fail
        go_ret
        exact HZ.out
      · have H2 := hid_of (HEND.out hq)
        rw [if_neg hq] at HS
        have e6 : IntKind.i64.wrap (U - F) = U - F := IntWalk.i64_in _ (by omega)
        have e7 : IntKind.i64.wrap (U - F + 1) = U - F + 1 := IntWalk.i64_in _ (by omega)
        clear HEND hF hU
        go_enter Tryz.func14, Tryz.ntmps14
        go_wp2_with fail
        refine H1.out.mono ?_
        rintro e w1 hw1
        obtain ⟨rfl, hww⟩ := hw1
        rw [hww]
        clear hww w1
        go_wp2_with fail
        refine H2.out.mono ?_
        rintro e w2 hw2
        have HZ := hid_of hw2
        obtain ⟨v2, rfl, _, _⟩ := hw2
        go_wp2_with fail
        go_ret
        rw [HS.out]
        exact HZ.out
    · rw [if_pos hf] at hF
      rw [if_neg ht] at hU
      have e1 : IntKind.i64.wrap (f + (N : Int)) = f + (N : Int) := IntWalk.i64_in _ (by omega)
      have e2 : max (f + (N : Int)) 0 = F := hF.symm
      have e4 : min t ((N : Int) - 1) = U := hU.symm
      have hUl : -9223372036854775808 ≤ U := by omega
      by_cases hq : U < F
      · have HZ : Hid (RunE (slS L f t r) w (.returned (.slice none 0 0)) w) := hid_of (by rw [HS.out, if_pos hq]; exact ⟨_, rfl, or_nil _ _, Below.refl _ _⟩)
        clear HS HEND hF hU
        go_enter Tryz.func14, Tryz.ntmps14
        go_wp2_with fail
        refine H1.out.mono ?_
        rintro e w1 hw1
        obtain ⟨rfl, hww⟩ := hw1
        rw [hww]
        clear hww w1
        go_wp2_with fail
        go_ret
        exact HZ.out
      · have H2 := hid_of (HEND.out hq)
        rw [if_neg hq] at HS
        have e6 : IntKind.i64.wrap (U - F) = U - F := IntWalk.i64_in _ (by omega)
        have e7 : IntKind.i64.wrap (U - F + 1) = U - F + 1 := IntWalk.i64_in _ (by omega)
        clear HEND hF hU
        go_enter Tryz.func14, Tryz.ntmps14
        go_wp2_with fail
        refine H1.out.mono ?_
        rintro e w1 hw1
        obtain ⟨rfl, hww⟩ := hw1
        rw [hww]
        clear hww w1
        go_wp2_with fail
        refine H2.out.mono ?_
        rintro e w2 hw2
        have HZ := hid_of hw2
        obtain ⟨v2, rfl, _, _⟩ := hw2
        go_wp2_with fail
        go_ret
        rw [HS.out]
        exact HZ.out
  · by_cases ht : t < 0
    · rw [if_neg hf] at hF
      rw [if_pos ht] at hU
      have e3 : IntKind.i64.wrap (t + (N : Int)) = t + (N : Int) := IntWalk.i64_in _ (by omega)
      have e4 : min (t + (N : Int)) ((N : Int) - 1) = U := hU.symm
      subst hF
      have hUl : -9223372036854775808 ≤ U := by omega
      by_cases hq : U < F
      · have HZ : Hid (RunE (slS L F t r) w (.returned (.slice none 0 0)) w) := hid_of (by rw [HS.out, if_pos hq]; exact ⟨_, rfl, or_nil _ _, Below.refl _ _⟩)
        clear HS HEND hU
        go_enter Tryz.func14, Tryz.ntmps14
        go_wp2_with fail
        refine H1.out.mono ?_
        rintro e w1 hw1
        obtain ⟨rfl, hww⟩ := hw1
        rw [hww]
        clear hww w1
        go_wp2_with fail
        go_ret
        exact HZ.out
      · have H2 := hid_of (HEND.out hq)
        rw [if_neg hq] at HS
        have e6 : IntKind.i64.wrap (U - F) = U - F := IntWalk.i64_in _ (by omega)
        have e7 : IntKind.i64.wrap (U - F + 1) = U - F + 1 := IntWalk.i64_in _ (by omega)
        clear HEND hU
        go_enter Tryz.func14, Tryz.ntmps14
        go_wp2_with fail
        refine H1.out.mono ?_
        rintro e w1 hw1
        obtain ⟨rfl, hww⟩ := hw1
        rw [hww]
        clear hww w1
        go_wp2_with fail
        refine H2.out.mono ?_
        rintro e w2 hw2
        have HZ := hid_of hw2
        obtain ⟨v2, rfl, _, _⟩ := hw2
        go_wp2_with fail
        go_ret
        rw [HS.out]
        exact HZ.out
    · rw [if_neg hf] at hF
      rw [if_neg ht] at hU
      have e4 : min t ((N : Int) - 1) = U := hU.symm
      subst hF
      have hUl : -9223372036854775808 ≤ U := by omega
      by_cases hq : U < F
      · have HZ : Hid (RunE (slS L F t r) w (.returned (.slice none 0 0)) w) := hid_of (by rw [HS.out, if_pos hq]; exact ⟨_, rfl, or_nil _ _, Below.refl _ _⟩)
        clear HS HEND hU
        go_enter Tryz.func14, Tryz.ntmps14
        go_wp2_with fail
        refine H1.out.mono ?_
        rintro e w1 hw1
        obtain ⟨rfl, hww⟩ := hw1
        rw [hww]
        clear hww w1
        go_wp2_with fail
        go_ret
        exact HZ.out
      · have H2 := hid_of (HEND.out hq)
        rw [if_neg hq] at HS
        have e6 : IntKind.i64.wrap (U - F) = U - F := IntWalk.i64_in _ (by omega)
        have e7 : IntKind.i64.wrap (U - F + 1) = U - F + 1 := IntWalk.i64_in _ (by omega)
        clear HEND hU
        go_enter Tryz.func14, Tryz.ntmps14
        go_wp2_with fail
        refine H1.out.mono ?_
        rintro e w1 hw1
        obtain ⟨rfl, hww⟩ := hw1
        rw [hww]
        clear hww w1
        go_wp2_with fail
        refine H2.out.mono ?_
        rintro e w2 hw2
        have HZ := hid_of hw2
        obtain ⟨v2, rfl, _, _⟩ := hw2
        go_wp2_with fail
        go_ret
        rw [HS.out]
        exact HZ.out
theorem slice_call {B b : Nat} {l : EL} {w : World} (h : RK B b l w) (f t : Int) (r : Bool) (hn : l.length ≤ big) (hf1 : -9223372036854775808 ≤ f) (hf2 : f ≤ 9223372036854775807) (ht1 : -9223372036854775808 ≤ t) (ht2 : t ≤ 9223372036854775807) : Calls Tryz.prog 14 #[ptr b, .int .i64 f, .int .i64 t, .bool r] w fun e w' => RunE (slS l f t r) w e w' :=
  slice_gen (ptr b) l f t r w hn hf1 hf2 ht1 ht2 (len_call h) (fun f' n' hh => run_call h f' n' r hh hn)
theorem run_nil (p : Value) (f n : Nat) (r : Bool) (w : World) (h : f + n ≤ 0) : Calls Tryz.prog 31 #[p, .int .i64 (f : Int), .int .i64 (n : Int), .bool r] w fun e w' => RunE (runS [] f n r) w e w' := by
  obtain rfl : n = 0 := by omega
  have : runS [] f 0 r = [] := by unfold runS; simp
  rw [this]
  exact run_zero p f r w
theorem slS_nil (f t : Int) (r : Bool) : slS [] f t r = [] := by
  unfold slS
  rw [if_pos (by unfold toS fromS; simp; split <;> omega)]
theorem slice_nil (f t : Int) (r : Bool) (w : World) (hf1 : -9223372036854775808 ≤ f) (hf2 : f ≤ 9223372036854775807) (ht1 : -9223372036854775808 ≤ t) (ht2 : t ≤ 9223372036854775807) : Calls Tryz.prog 14 #[.pointer none, .int .i64 f, .int .i64 t, .bool r] w fun e w' => RunE [] w e w' := by
  have := slice_gen (.pointer none) [] f t r w (by simp [big]) hf1 hf2 ht1 ht2 (len_nil w) (fun f' n' hh => run_nil _ f' n' r w hh)
  rw [slS_nil] at this
  exact this
/- what skip and most leave -/
set_option maxHeartbeats 2000000 in
set_option maxRecDepth 100000 in
theorem narrowed_call (n : Nat) (skip most : Int) (w : World) (hn : n ≤ 9000000000000) : Calls Tryz.prog 48 #[.int .i64 (n : Int), .int .i64 skip, .int .i64 most] w fun e w' => e = .returned (.tuple #[.int .i64 (clampS skip n : Int), .int .i64 (clampN most (n - clampS skip n) : Int)]) ∧ w' = w := by
  obtain ⟨S, hS⟩ : ∃ S, S = clampS skip n := ⟨_, rfl⟩
  obtain ⟨R, hR⟩ : ∃ R, R = n - S := ⟨_, rfl⟩
  obtain ⟨X, hX⟩ : ∃ X, X = max skip 0 := ⟨_, rfl⟩
  have e1 : max skip 0 = X := hX.symm
  have e2 : min X (n : Int) = (S : Int) := by rw [hS]; unfold clampS; omega
  have e3 : IntKind.i64.wrap ((n : Int) - (S : Int)) = (R : Int) := by rw [show (n : Int) - (S : Int) = (R : Int) from by rw [hS] at hR ⊢; unfold clampS at *; omega]; exact IntWalk.i64_in _ (by omega)
  have HC : Hid (clampN most (n - clampS skip n) = if 0 ≤ most then min R most.toNat else R) := hid_of (by rw [← hS, ← hR]; rfl)
  have HS := hid_of hS
  rw [← hS]
  rw [← hS] at HC
  clear hX hS hR
  by_cases h : 0 ≤ most
  · rw [if_pos h] at HC
    obtain ⟨M, hM⟩ : ∃ M, M = min R most.toNat := ⟨_, rfl⟩
    have e4 : min (R : Int) most = (M : Int) := by omega
    rw [← hM] at HC
    rw [HC.out]
    clear HC hM
    go_enter Tryz.func48, Tryz.ntmps48
    go_wp2
    go_ret2
    exact ⟨rfl, rfl⟩
  · rw [if_neg h] at HC
    rw [HC.out]
    clear HC
    go_enter Tryz.func48, Tryz.ntmps48
    go_wp2
    go_ret2
    exact ⟨rfl, rfl⟩
end Go.Proofs.YtighoelipihifabGreatDoor.Seek
