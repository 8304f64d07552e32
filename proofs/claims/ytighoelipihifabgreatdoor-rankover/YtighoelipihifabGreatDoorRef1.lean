/- The document's own: May, Less, Find, Put, Of. -/
import Derived.Test.YtighoelipihifabGreatDoorTwin
import Derived.Test.YtighoelipihifabGreatDoorNeq
namespace Go.Proofs.YtighoelipihifabGreatDoor.Ref1
open Go.RowKit Go.Maps Go.Sort
open Go.Proofs.YtighoelipihifabGreatDoor.MapMath
open Go.Proofs.YtighoelipihifabGreatDoor.RankMath
open Go.Proofs.YtighoelipihifabGreatDoor.RankMath2
open Go.Proofs.YtighoelipihifabGreatDoor.RankMath3
open Go.Proofs.YtighoelipihifabGreatDoor.Base
open Go.Proofs.YtighoelipihifabGreatDoor.Cmp
open Go.Proofs.YtighoelipihifabGreatDoor.Run
open Go.Proofs.YtighoelipihifabGreatDoor.Scores
open Go.Proofs.YtighoelipihifabGreatDoor.Of
set_option linter.unusedVariables false

set_option maxRecDepth 100000 in
theorem rmay_call (n : Int) (w : World) : Calls Tryz.prog 21 #[.int .i64 n] w fun e w' => e = .returned (.bool (decide (May n))) ∧ w' = w := by
  by_cases h1 : -9007199254740992 ≤ n
  · by_cases h2 : n ≤ 9007199254740992
    · have HM : Hid (decide (May n) = true) := hid_of (decide_eq_true ⟨h1, h2⟩)
      go_enter Tryz.func21, Tryz.ntmps21
      go_wp2
      go_ret
      exact ⟨by rw [HM.out]; rfl, rfl⟩
    · have HM : Hid (decide (May n) = false) := hid_of (decide_eq_false fun h => h2 h.2)
      go_enter Tryz.func21, Tryz.ntmps21
      go_wp2
      go_ret
      exact ⟨by rw [HM.out]; rfl, rfl⟩
  · have HM : Hid (decide (May n) = false) := hid_of (decide_eq_false fun h => h1 h.1)
    go_enter Tryz.func21, Tryz.ntmps21
    go_wp2
    go_ret
    exact ⟨by rw [HM.out]; rfl, rfl⟩
set_option maxHeartbeats 1000000 in
set_option maxRecDepth 100000 in
theorem rless_call (a b : Ent) (w : World) : Calls Tryz.prog 40 #[eV a, eV b] w fun e w' => e = .returned (.bool (ltb a b)) ∧ Below w.heap.size w w' := by
  have HB : Hid (Below w.heap.size w ((w.alloc (.cells #[.string (mk a.1), .int .i64 a.2] 35)).alloc (.cells #[.string (mk b.1), .int .i64 b.2] 35))) := hid_of (Base.bel (bnew w _) (bnew _ _) (Nat.le_refl _))
  have l1 := less_mk a.1 b.1
  unfold eV
  by_cases h1 : a.2 < b.2
  · have HE : Hid (ltb a b = true) := hid_of (ltb_t.2 (Or.inl h1))
    clear l1
    generalize mk a.1 = X at *
    generalize mk b.1 = Y at *
    generalize a.2 = x at *
    generalize b.2 = y at *
    go_enter Tryz.func40, Tryz.ntmps40
    go_wp2
    go_ret
    exact ⟨by rw [HE.out]; rfl, HB.out⟩
  · by_cases h2 : a.2 = b.2
    · have g2 : (a.2 == b.2) = true := by simpa using h2
      by_cases h3 : a.1 < b.1
      · have HE : Hid (ltb a b = true) := hid_of (ltb_t.2 (Or.inr ⟨h2, h3⟩))
        rw [decide_eq_true h3] at l1
        clear h2 h3
        generalize mk a.1 = X at *
        generalize mk b.1 = Y at *
        generalize a.2 = x at *
        generalize b.2 = y at *
        go_enter Tryz.func40, Tryz.ntmps40
        go_wp2
        go_ret
        exact ⟨by rw [HE.out]; rfl, HB.out⟩
      · have HE : Hid (ltb a b = false) := hid_of (ltb_f.2 (by rintro (h | ⟨_, h⟩); exact h1 h; exact h3 h))
        rw [decide_eq_false h3] at l1
        clear h2 h3
        generalize mk a.1 = X at *
        generalize mk b.1 = Y at *
        generalize a.2 = x at *
        generalize b.2 = y at *
        go_enter Tryz.func40, Tryz.ntmps40
        go_wp2
        go_ret
        exact ⟨by rw [HE.out]; rfl, HB.out⟩
    · have g2 : (a.2 == b.2) = false := by simpa using h2
      have HE : Hid (ltb a b = false) := hid_of (ltb_f.2 (by rintro (h | ⟨h, _⟩); exact h1 h; exact h2 h))
      clear h2 l1
      generalize mk a.1 = X at *
      generalize mk b.1 = Y at *
      generalize a.2 = x at *
      generalize b.2 = y at *
      go_enter Tryz.func40, Tryz.ntmps40
      go_wp2
      go_ret
      exact ⟨by rw [HE.out]; rfl, HB.out⟩
def findI (l : EL) (k : Bs) : Int := if ok l k then (plc l k : Int) else -1
set_option maxHeartbeats 1000000 in
set_option maxRecDepth 100000 in
theorem rfind_call (v : Value) (l : EL) (k : Bs) (w : World) (h : FS w v l) (hn : l.length ≤ big) : Calls Tryz.prog 22 #[v, .string (mk k)] w fun e w' => e = .returned (.int .i64 (findI l k)) ∧ w' = w := by
  have HF := hid_of h
  obtain ⟨a, c, rfl, hc, h'⟩ := h
  clear h'
  go_enter Tryz.func22, Tryz.ntmps22
  go_wp2_with fail
  go_loopg [5] l.length (fun g si wx => ∃ j : Nat, j ≤ l.length ∧ l.length ≤ j + g ∧ si = .int .i64 (j : Int) ∧ Hid (∀ i (hi : i < l.length), i < j → (l[i]'hi).1 ≠ k) ∧ wx = w)
  case atStart => exact ⟨0, by omega, by omega, rfl, hid_of (fun i _ hi => by omega), rfl⟩
  case round =>
    obtain ⟨j, hj, hg, rfl, HA, hwx⟩ := hrel
    subst hwx
    by_cases hlt : j < l.length
    · obtain ⟨g', rfl⟩ : ∃ g', gk = g' + 1 := ⟨gk - 1, by omega⟩
      obtain ⟨gb, o, rfl, hat⟩ := HF.out.at hlt
      obtain ⟨c0, c1⟩ := hat j hlt
      have g1 : (j : Int) < (l.length : Int) := by omega
      have e2 : IntKind.i64.wrap ((j : Int) + 1) = (j : Int) + 1 := IntWalk.i64_in _ (by unfold big at hn; omega)
      have hcmp := str_eq (l[j]'hlt).1 k
      by_cases hq : (l[j]'hlt).1 = k
      · rw [show ((l[j]'hlt).1 == k) = true from by simpa using hq] at hcmp
        have HE : Hid (findI l k = (j : Int)) := hid_of (by
          unfold findI
          rw [if_pos (ok_iff.2 ⟨_, List.getElem_mem hlt, hq⟩)]
          have : plc l k = j := (List.findIdx_eq hlt).2 ⟨by simpa using hq, fun i hi => by simpa using HA.out i (by omega) hi⟩
          rw [this])
        clear hq hat
        generalize mk (l[j]'hlt).1 = X at *
        generalize mk k = K at *
        go_wp2_with fail
        go_ret
        exact ⟨by rw [HE.out]; rfl, rfl⟩
      · rw [show ((l[j]'hlt).1 == k) = false from by simpa using hq] at hcmp
        have HA2 : Hid (∀ i (hi : i < l.length), i < j + 1 → (l[i]'hi).1 ≠ k) := hid_of fun i hi hij => by
          by_cases e : i = j
          · subst e; exact hq
          · exact HA.out i hi (by omega)
        clear hq hat
        generalize mk (l[j]'hlt).1 = X at *
        generalize mk k = K at *
        go_wp2_with fail
        go_roundg g'
        case measure => omega
        case rel => exact ⟨j + 1, by omega, by omega, by rw [show ((j + 1 : Nat) : Int) = (j : Int) + 1 from by omega], HA2, rfl⟩
    · have gi : ¬ (j : Int) < (l.length : Int) := by omega
      have HE : Hid (findI l k = -1) := hid_of (by
        unfold findI
        rw [if_neg]
        intro h
        obtain ⟨p, hp, e⟩ := ok_iff.1 h
        obtain ⟨i, hi, rfl⟩ := List.getElem_of_mem hp
        exact HA.out i hi (by omega) e)
      go_wp2_with fail
      go_ret
      exact ⟨by rw [HE.out]; rfl, rfl⟩
theorem cnt_of {l : EL} {p : Ent → Bool} {n : Nat} (hn : n ≤ l.length) (h1 : ∀ i (h : i < l.length), i < n → p (l[i]'h) = true) (h2 : ∀ i (h : i < l.length), n ≤ i → p (l[i]'h) = false) : l.countP p = n := by
  have e : l = l.take n ++ l.drop n := (List.take_append_drop n l).symm
  rw [e, List.countP_append, List.countP_eq_length.2, List.countP_eq_zero.2, List.length_take]
  · omega
  · intro x hx
    obtain ⟨i, hi, rfl⟩ := List.getElem_of_mem hx
    rw [List.getElem_drop, h2 (n + i) (by rw [List.length_drop] at hi; omega) (by omega)]
    simp
  · intro x hx
    obtain ⟨i, hi, rfl⟩ := List.getElem_of_mem hx
    rw [List.getElem_take]
    exact h1 i _ (by rw [List.length_take] at hi; omega)
set_option maxHeartbeats 4000000 in
set_option maxRecDepth 100000 in
theorem rput_call (v : Value) (l : EL) (e : Ent) (w : World) (h : FS w v l) (hs : Srt l) (hn : l.length < big) : Calls Tryz.prog 23 #[v, eV e] w fun z w' => RunE (put e l) w z w' := by
  have HF := hid_of h
  have HS := hid_of hs
  have HP := hid_of (put_eq hs e)
  obtain ⟨a, c, rfl, hc, h'⟩ := h
  have HLs := hid_of (fun x => rless_call x e)
  obtain ⟨V, hV⟩ : ∃ V, V = w.alloc (.cells #[.string (mk e.1), .int .i64 e.2] 35) := ⟨_, rfl⟩
  have bV : Below w.heap.size w V := by rw [hV]; exact bnew w _
  have HEC : Hid (∀ W, Below V.heap.size V W → W.cell? ⟨w.heap.size, 0, none⟩ = some (.string (mk e.1)) ∧ W.cell? ⟨w.heap.size, 1, none⟩ = some (.int .i64 e.2)) := hid_of fun W hW => ⟨cell_on hW (by rw [hV]; simp), cell_on hW (by rw [hV]; simp)⟩
  have HBV := hid_of bV
  have HV := hid_of hV
  have HEV : Hid (eV e = .agg #[.string (mk e.1), .int .i64 e.2]) := hid_of rfl
  have hnb : l.length ≤ 9000000000000 := by unfold big at hn; omega
  clear h' hs hV bV
  obtain ⟨Y, hY⟩ : ∃ Y, Y = mk e.1 := ⟨_, rfl⟩
  obtain ⟨yy, hyy⟩ : ∃ yy, yy = e.2 := ⟨_, rfl⟩
  have HY := hid_of hY
  have Hyy := hid_of hyy
  rw [← hY, ← hyy] at HEC HV HEV
  rw [HEV.out]
  clear hY hyy
  go_enter Tryz.func23, Tryz.ntmps23
  go_wp2_with fail
  rw [← HV.out]
  go_loopg [5, 6] l.length (fun g slo shi wx => ∃ lo hi : Nat, lo ≤ hi ∧ hi ≤ l.length ∧ hi ≤ lo + g ∧ slo = .int .i64 (lo : Int) ∧ shi = .int .i64 (hi : Int) ∧ Hid (∀ j (h : j < l.length), j < lo → ltb (l[j]'h) e = true) ∧ Hid (∀ j (h : j < l.length), hi ≤ j → ltb (l[j]'h) e = false) ∧ Hid (Below V.heap.size V wx))
  case atStart => exact ⟨0, l.length, by omega, by omega, by omega, rfl, rfl, hid_of (fun j h hj => by omega), hid_of (fun j h hj => by omega), hid_of (Below.refl _ _)⟩
  case round =>
    obtain ⟨lo, hi, h1, h2, hg, rfl, rfl, HL, HH, HBx⟩ := hrel
    by_cases hlt : lo < hi
    · obtain ⟨g', rfl⟩ : ∃ g', gk = g' + 1 := ⟨gk - 1, by omega⟩
      obtain ⟨M, hM⟩ : ∃ M, M = (lo + hi) / 2 := ⟨_, rfl⟩
      have hMl : M < l.length := by omega
      have HBw : Hid (∀ W, Below wr.heap.size wr W → Below w.heap.size w W ∧ Below V.heap.size V W) := hid_of fun W hW => ⟨Base.bel (Base.bel HBV.out HBx.out (Nat.le_refl _)) hW (Nat.le_refl _), Base.bel HBx.out hW (Nat.le_refl _)⟩
      obtain ⟨ga, oa, rfl, ha⟩ := (HF.out.below (HBw.out wr (Below.refl _ _)).1).at hMl
      have HCC : Hid (∀ W, Below wr.heap.size wr W → W.cell? ⟨ga, oa + M * 2, none⟩ = some (.string (mk (l[M]'hMl).1)) ∧ W.cell? ⟨ga, oa + M * 2 + 1, none⟩ = some (.int .i64 (l[M]'hMl).2) ∧ W.cell? ⟨w.heap.size, 0, none⟩ = some (.string Y) ∧ W.cell? ⟨w.heap.size, 1, none⟩ = some (.int .i64 yy)) := hid_of fun W hW => ⟨cell_on hW (ha M hMl).1, cell_on hW (ha M hMl).2, (HEC.out W (HBw.out W hW).2).1, (HEC.out W (HBw.out W hW).2).2⟩
      have c0 := HCC.out wr (Below.refl _ _)
      have e1 : IntKind.i64.wrap ((lo : Int) + (hi : Int)) = (lo : Int) + (hi : Int) := IntWalk.i64_in _ (by omega)
      have e2 : ((lo : Int) + (hi : Int)) / 2 = (M : Int) := by omega
      have e4 : IntKind.i64.wrap (M : Int) = (M : Int) := IntWalk.i64_in _ (by omega)
      have e3 : IntKind.i64.wrap ((M : Int) + 1) = (M : Int) + 1 := IntWalk.i64_in _ (by omega)
      have g1 : (lo : Int) < (hi : Int) := by omega
      have g2 : (M : Int) < (l.length : Int) := by omega
      have HM := hid_of hM
      have H1 := hid_of (HLs.out (l[M]'hMl))
      rw [HEV.out] at H1
      cases hq : ltb (l[M]'hMl) e with
      | true =>
        rw [hq] at H1
        have HL2 : Hid (∀ j (h : j < l.length), j < M + 1 → ltb (l[j]'h) e = true) := hid_of fun j hj hjM => by
          by_cases e : j = M
          · subst e; exact hq
          · exact ltb_t.2 (ltE_trans (List.pairwise_iff_getElem.1 HS.out j M hj hMl (by omega)) (ltb_t.1 hq))
        clear hq ha hM HCC
        have HCC2 := HBw
        obtain ⟨k0, k1, k2, k3⟩ := c0
        have HK : Hid (∀ W, Below wr.heap.size wr W → W.cell? ⟨ga, oa + M * 2, none⟩ = some (.string (mk (l[M]'hMl).1)) ∧ W.cell? ⟨ga, oa + M * 2 + 1, none⟩ = some (.int .i64 (l[M]'hMl).2) ∧ W.cell? ⟨w.heap.size, 0, none⟩ = some (.string Y) ∧ W.cell? ⟨w.heap.size, 1, none⟩ = some (.int .i64 yy)) := hid_of fun W hW => ⟨cell_on hW k0, cell_on hW k1, cell_on hW k2, cell_on hW k3⟩
        unfold eV at H1
        generalize mk (l[M]'hMl).1 = X at *
        generalize (l[M]'hMl).2 = xx at *
        go_wp2_with fail
        go_region_held3 (fun W => W.cell? ⟨ga, oa + M * 2, none⟩ = some (.string X) ∧ W.cell? ⟨ga, oa + M * 2 + 1, none⟩ = some (.int .i64 xx) ∧ W.cell? ⟨w.heap.size, 0, none⟩ = some (.string Y) ∧ W.cell? ⟨w.heap.size, 1, none⟩ = some (.int .i64 yy)) (first | exact ⟨k0, k1, k2, k3⟩ | exact k5) (first
          | (go_at_call 40; refine (H1.out _).mono ?_; rintro z w1 hz1; obtain ⟨rfl, bb⟩ := hz1; have HB1 : Hid (Below wr.heap.size wr w1) := hid_of ((Below.refl _ wr).drew.trans bb); have k5 := HK.out w1 HB1.out; clear bb))
        go_wp2_with fail
        go_roundg g'
        case measure => omega
        case rel => exact ⟨M + 1, hi, by have := HM.out; omega, h2, by have := HM.out; omega, by rw [show ((M + 1 : Nat) : Int) = (M : Int) + 1 from by omega], rfl, HL2, HH, hid_of (HBw.out w1 HB1.out).2⟩
      | false =>
        rw [hq] at H1
        have HH2 : Hid (∀ j (h : j < l.length), M ≤ j → ltb (l[j]'h) e = false) := hid_of fun j hj hjM => by
          by_cases ee : j = M
          · subst ee; exact hq
          · exact ltb_f.2 fun hlt2 => (ltb_f.1 hq) (ltE_trans (List.pairwise_iff_getElem.1 HS.out M j hMl hj (by omega)) hlt2)
        clear hq ha hM HCC
        obtain ⟨k0, k1, k2, k3⟩ := c0
        have HK : Hid (∀ W, Below wr.heap.size wr W → W.cell? ⟨ga, oa + M * 2, none⟩ = some (.string (mk (l[M]'hMl).1)) ∧ W.cell? ⟨ga, oa + M * 2 + 1, none⟩ = some (.int .i64 (l[M]'hMl).2) ∧ W.cell? ⟨w.heap.size, 0, none⟩ = some (.string Y) ∧ W.cell? ⟨w.heap.size, 1, none⟩ = some (.int .i64 yy)) := hid_of fun W hW => ⟨cell_on hW k0, cell_on hW k1, cell_on hW k2, cell_on hW k3⟩
        unfold eV at H1
        generalize mk (l[M]'hMl).1 = X at *
        generalize (l[M]'hMl).2 = xx at *
        go_wp2_with fail
        go_region_held3 (fun W => W.cell? ⟨ga, oa + M * 2, none⟩ = some (.string X) ∧ W.cell? ⟨ga, oa + M * 2 + 1, none⟩ = some (.int .i64 xx) ∧ W.cell? ⟨w.heap.size, 0, none⟩ = some (.string Y) ∧ W.cell? ⟨w.heap.size, 1, none⟩ = some (.int .i64 yy)) (first | exact ⟨k0, k1, k2, k3⟩ | exact k5) (first
          | (go_at_call 40; refine (H1.out _).mono ?_; rintro z w1 hz1; obtain ⟨rfl, bb⟩ := hz1; have HB1 : Hid (Below wr.heap.size wr w1) := hid_of ((Below.refl _ wr).drew.trans bb); have k5 := HK.out w1 HB1.out; clear bb))
        go_wp2_with fail
        go_roundg g'
        case measure => omega
        case rel => exact ⟨lo, M, by have := HM.out; omega, by omega, by have := HM.out; omega, rfl, rfl, HL, HH2, hid_of (HBw.out w1 HB1.out).2⟩
    · obtain rfl : lo = hi := by omega
      have gi : ¬ (lo : Int) < (lo : Int) := by omega
      have hcnt : (l.countP fun y => ltb y e) = lo := cnt_of h2 HL.out HH.out
      have hpe := HP.out
      rw [hcnt] at hpe
      have hF := HF.out.below (Base.bel HBV.out HBx.out (Nat.le_refl _))
      have hcut1 := cut_hi a l.length c lo (by omega)
      have hcut2 := cut_lo a l.length c lo h2
      obtain ⟨v2, w2, hr2, bd2⟩ := bd_app (bd_start wr) (.slice a lo c) (l.take lo) (hF.take lo h2) (by rw [List.length_take]; unfold big at *; simp only [List.length_nil]; omega)
      obtain ⟨x0, x1⟩ := HEC.out w2 (Base.bel HBx.out bd2.bel (Nat.le_refl _))
      have bA : Below w2.heap.size w2 (w2.alloc (.cells #[.string Y, .int .i64 yy] 35)) := bnew w2 _
      have hf1 : FS (w2.alloc (.cells #[.string Y, .int .i64 yy] 35)) (.slice (some ⟨w2.heap.size, 0, none⟩) 1 1) [e] := by rw [HY.out, Hyy.out]; exact fs_one w2 e
      obtain ⟨v3, w3, hr3, bd3⟩ := bd_app (bd2.below bA) (.slice (some ⟨w2.heap.size, 0, none⟩) 1 1) [e] hf1 (by rw [List.length_append, List.length_take]; unfold big at *; simp only [List.length_nil, List.length_cons]; omega)
      obtain ⟨v4, w4, hr4, bd4⟩ := bd_app bd3 (.slice (ca a c lo) (l.length - lo) (c - lo)) (l.drop lo) (hF.below bd3.bel |>.drop lo h2) (by rw [List.length_append, List.length_append, List.length_take, List.length_drop]; unfold big at *; simp only [List.length_nil, List.length_cons]; omega)
      have HB4 := hid_of bd4
      have HPE := hid_of hpe
      clear bd2 bA bd3 bd4 hF hf1 hpe hcnt
      go_wp2_with (first
        | (at_builtin; refine wpl_eq rfl _ _ 22 22 rfl (.slice none 0 0) (.slice a lo c) v2 wr w2 rfl rfl hr2 ?_)
        | (at_builtin; refine wpl_eq rfl _ _ 22 22 rfl v2 (.slice (some ⟨w2.heap.size, 0, none⟩) 1 1) v3 _ w3 rfl rfl hr3 ?_)
        | (at_builtin; refine wpl_eq rfl _ _ 22 22 rfl v3 (.slice (ca a c lo) (l.length - lo) (c - lo)) v4 w3 w4 rfl rfl hr4 ?_))
      go_ret
      have hrow := HB4.out.row
      rw [List.nil_append, List.append_assoc, show [e] ++ l.drop lo = e :: l.drop lo from rfl, ← HPE.out] at hrow
      exact ⟨v4, rfl, row_mono hrow (Nat.le_trans HBV.out.size HBx.out.size), Base.bel HBV.out (Base.bel HBx.out HB4.out.bel (Nat.le_refl _)) (Nat.le_refl _)⟩
theorem uq_take {l : EL} {k : Nat} (h : k < l.length) (u : Uq (l.take k)) : Uq (l.take (k + 1)) ↔ ok (l.take k) (l[k]'h).1 = false := by
  rw [List.take_succ_eq_append_getElem h, uq_snoc]
  exact ⟨fun q => q.2, fun q => ⟨u, q⟩⟩
theorem srtL_take {l : EL} {k : Nat} (h : k < l.length) : srtL (l.take (k + 1)) = put (l[k]'h) (srtL (l.take k)) := by
  rw [List.take_succ_eq_append_getElem h]
  unfold srtL
  rw [List.foldl_append]
  rfl
theorem uq_mono {l : EL} {k : Nat} (u : Uq l) : Uq (l.take k) := List.Nodup.sublist (List.Sublist.map _ (List.take_sublist k l)) u
def ROfE (l : EL) (w : World) (e : Ending) (w' : World) : Prop := Below w.heap.size w w' ∧ ((¬ AllMay l ∧ e = .returned (.tuple #[.slice none 0 0, .int .i64 120])) ∨ (AllMay l ∧ ¬ Uq l ∧ e = .returned (.tuple #[.slice none 0 0, .int .i64 100])) ∨ (AllMay l ∧ Uq l ∧ ∃ v, e = .returned (.tuple #[v, .int .i64 0]) ∧ OR w.heap.size w' v (srtL l)))
set_option maxHeartbeats 4000000 in
set_option maxRecDepth 100000 in
theorem rof_call (v : Value) (l : EL) (w : World) (h : FS w v l) (hn : l.length ≤ big) : Calls Tryz.prog 7 #[v] w fun e w' => ROfE l w e w' := by
  have HF := hid_of h
  obtain ⟨a, c, rfl, hc, h'⟩ := h
  have HMy := hid_of rmay_call
  have hnb : l.length ≤ 9000000000000 := hn
  clear h'
  go_enter Tryz.func7, Tryz.ntmps7
  go_wp2_with fail
  go_loopg [4] l.length (fun g si wx => ∃ k : Nat, k ≤ l.length ∧ l.length ≤ k + g ∧ si = .int .i64 (k : Int) ∧ Hid (∀ i (hi : i < l.length), i < k → May (l[i]'hi).2) ∧ wx = w)
  case atStart => exact ⟨0, by omega, by omega, rfl, hid_of (fun i _ hi => by omega), rfl⟩
  case round =>
    obtain ⟨k, hk, hg, rfl, HA, hwx⟩ := hrel
    subst hwx
    by_cases hlt : k < l.length
    · obtain ⟨g', rfl⟩ : ∃ g', gk = g' + 1 := ⟨gk - 1, by omega⟩
      obtain ⟨gb, o, rfl, hat⟩ := HF.out.at hlt
      obtain ⟨c0, c1⟩ := hat k hlt
      have g1 : (k : Int) < (l.length : Int) := by omega
      have e2 : IntKind.i64.wrap ((k : Int) + 1) = (k : Int) + 1 := IntWalk.i64_in _ (by omega)
      have H1 := hid_of (HMy.out (l[k]'hlt).2 wr)
      by_cases hmay : May (l[k]'hlt).2
      · rw [decide_eq_true hmay] at H1
        have HA2 : Hid (∀ i (hi : i < l.length), i < k + 1 → May (l[i]'hi).2) := hid_of fun i hi hik => by
          by_cases e : i = k
          · subst e; exact hmay
          · exact HA.out i hi (by omega)
        clear hmay hat
        generalize (l[k]'hlt).2 = xx at *
        go_wp2_with fail
        refine H1.out.mono ?_
        rintro e w2 hw2
        obtain ⟨rfl, hww⟩ := hw2
        rw [hww]
        clear hww w2
        go_wp2_with fail
        go_roundg g'
        case measure => omega
        case rel => exact ⟨k + 1, by omega, by omega, by rw [show ((k + 1 : Nat) : Int) = (k : Int) + 1 from by omega], HA2, rfl⟩
      · rw [decide_eq_false hmay] at H1
        have HN : Hid (¬ AllMay l) := hid_of fun h => hmay (h _ (List.getElem_mem hlt))
        clear hmay hat
        generalize (l[k]'hlt).2 = xx at *
        go_wp2_with fail
        refine H1.out.mono ?_
        rintro e w2 hw2
        obtain ⟨rfl, hww⟩ := hw2
        rw [hww]
        clear hww w2
        go_wp2_with fail
        go_ret2
        exact ⟨Below.refl _ _, Or.inl ⟨HN.out, rfl⟩⟩
    · have gi : ¬ (k : Int) < (l.length : Int) := by omega
      have HAll : Hid (AllMay l) := hid_of fun e he => by
        obtain ⟨i, hi, rfl⟩ := List.getElem_of_mem he
        exact HA.out i hi (by omega)
      obtain ⟨W0, hW0⟩ : ∃ W0, W0 = wr := ⟨_, rfl⟩
      have HW0 := hid_of hW0
      clear HA hk hg hlt hW0
      go_wp2_with fail
      go_loopg [5, 6] l.length (fun g sv si wx => ∃ (k : Nat) (vv : Value), k ≤ l.length ∧ l.length ≤ k + g ∧ sv = vv ∧ si = .int .i64 (k : Int) ∧ Hid (Uq (l.take k)) ∧ Hid (OR W0.heap.size wx vv (srtL (l.take k))) ∧ Hid (Below W0.heap.size W0 wx))
      case atStart => exact ⟨0, _, by omega, by omega, rfl, rfl, hid_of List.nodup_nil, hid_of (or_nil _ _), hid_of (by rw [HW0.out]; exact Below.refl _ _)⟩
      case round =>
        obtain ⟨k, vv, hk, hg, hvv, rfl, HU, HO, HBx⟩ := hrel
        replace hvv := hvv.symm
        subst hvv
        by_cases hlt : k < l.length
        · obtain ⟨g', rfl⟩ : ∃ g', gk = g' + 1 := ⟨gk - 1, by omega⟩
          have hFx : FS wr (.slice a l.length c) l := by have := HF.out; rw [← HW0.out] at this; exact this.below HBx.out
          obtain ⟨gb, o, rfl, hat⟩ := hFx.at hlt
          obtain ⟨c0, c1⟩ := hat k hlt
          have g1 : (k : Int) < (l.length : Int) := by omega
          have e2 : IntKind.i64.wrap ((k : Int) + 1) = (k : Int) + 1 := IntWalk.i64_in _ (by omega)
          have hlen : (srtL (l.take k)).length ≤ l.length := by rw [srtL_len, List.length_take]; omega
          have H1 := hid_of (rfind_call vv (srtL (l.take k)) (l[k]'hlt).1 wr (fs_row HO.out) (Nat.le_trans hlen hn))
          have hok : ok (srtL (l.take k)) (l[k]'hlt).1 = ok (l.take k) (l[k]'hlt).1 := ok_perm (srtL_perm _) _
          cases hq : ok (l.take k) (l[k]'hlt).1 with
          | true =>
            rw [hq] at hok
            have hfi : findI (srtL (l.take k)) (l[k]'hlt).1 = (plc (srtL (l.take k)) (l[k]'hlt).1 : Int) := by unfold findI; rw [if_pos hok]
            rw [hfi] at H1
            have HN : Hid (¬ Uq l) := hid_of fun h => by
              have h1 : Uq (l.take (k + 1)) := uq_mono h
              rw [uq_take hlt HU.out, hq] at h1
              cases h1
            clear hq hok hfi hat
            generalize plc (srtL (l.take k)) (l[k]'hlt).1 = PP at *
            generalize mk (l[k]'hlt).1 = X at *
            generalize (l[k]'hlt).2 = xx at *
            go_wp2_with fail
            refine H1.out.mono ?_
            rintro e w2 hw2
            obtain ⟨rfl, hww⟩ := hw2
            rw [hww]
            clear hww w2
            go_wp2_with fail
            go_ret2
            have hb := HBx.out
            rw [HW0.out] at hb
            exact ⟨hb, Or.inr (Or.inl ⟨HAll.out, HN.out, rfl⟩)⟩
          | false =>
            rw [hq] at hok
            have hfi : findI (srtL (l.take k)) (l[k]'hlt).1 = -1 := by unfold findI; rw [if_neg (by rw [hok]; simp)]
            rw [hfi] at H1
            have HU2 : Hid (Uq (l.take (k + 1))) := hid_of ((uq_take hlt HU.out).2 hq)
            have H2 := hid_of (rput_call vv (srtL (l.take k)) (l[k]'hlt) wr (fs_row HO.out) (srtL_srt HU.out) (by rw [srtL_len, List.length_take]; unfold big at *; omega))
            rw [← srtL_take hlt] at H2
            clear hq hok hfi hat
            unfold eV at H2
            generalize mk (l[k]'hlt).1 = X at *
            generalize (l[k]'hlt).2 = xx at *
            go_wp2_with fail
            refine H1.out.mono ?_
            rintro e w2 hw2
            obtain ⟨rfl, hww⟩ := hw2
            rw [hww]
            clear hww w2
            go_wp2_with fail
            refine H2.out.mono ?_
            rintro e w3 ⟨v3, rfl, o3, b3⟩
            have HO3 := hid_of (row_mono o3 HBx.out.size)
            have HB3 := hid_of (Base.bel HBx.out b3 (Nat.le_refl _))
            clear o3 b3
            go_wp2_with fail
            go_roundg g'
            case measure => omega
            case rel => exact ⟨k + 1, v3, by omega, by omega, rfl, by rw [show ((k + 1 : Nat) : Int) = (k : Int) + 1 from by omega], HU2, HO3, HB3⟩
        · have gi2 : ¬ (k : Int) < (l.length : Int) := by omega
          have HFu : Hid (Uq l ∧ OR W0.heap.size wr vv (srtL l)) := hid_of (by
            have h1 := HU.out
            have h2 := HO.out
            rw [List.take_of_length_le (by omega)] at h1 h2
            exact ⟨h1, h2⟩)
          clear HU HO
          go_wp2_with fail
          go_ret2
          have hb := HBx.out
          have ho := HFu.out.2
          rw [HW0.out] at hb ho
          exact ⟨hb, Or.inr (Or.inr ⟨HAll.out, HFu.out.1, vv, rfl, ho⟩)⟩
end Go.Proofs.YtighoelipihifabGreatDoor.Ref1
