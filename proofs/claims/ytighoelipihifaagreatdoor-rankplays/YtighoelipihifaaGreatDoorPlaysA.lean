/- The document's Turned, way, cut, Slice, Pop. -/
import Derived.Test.YtighoelipihifaaGreatDoorWithout
namespace Go.Proofs.YtighoelipihifaaGreatDoor.PlaysA
open Go.RowKit Go.Maps Go.Sort
open Go.Proofs.YtighoelipihifaaGreatDoor.MapMath
open Go.Proofs.YtighoelipihifaaGreatDoor.RankMath
open Go.Proofs.YtighoelipihifaaGreatDoor.RankMath2
open Go.Proofs.YtighoelipihifaaGreatDoor.RankMath3
open Go.Proofs.YtighoelipihifaaGreatDoor.Base
open Go.Proofs.YtighoelipihifaaGreatDoor.Cmp
set_option linter.unusedVariables false
set_option linter.unusedSimpArgs false
def NewE (L : EL) (w : World) (e : Ending) (w' : World) : Prop := ∃ v, e = .returned v ∧ OR w.heap.size w' v L ∧ Below w.heap.size w w'
theorem fs_one' (w : World) (e : Ent) : FS (w.alloc (.cells #[.string (mk e.1), .int .i64 e.2] 46)) (.slice (some ⟨w.heap.size, 0, none⟩) 1 1) [e] := by
  refine ⟨_, 1, rfl, Nat.le_refl _, .inr ⟨w.heap.size, 0, rfl, fun k hk => ?_⟩⟩
  obtain rfl : k = 0 := by simpa using hk
  exact ⟨Lib.cell_of_heap (heap_alloc_new w _) 0, Lib.cell_of_heap (heap_alloc_new w _) 1⟩
theorem rev_take (l : EL) (k : Nat) (h : k < l.length) (J : Nat) (hJ : J + 1 + k = l.length) (hJl : J < l.length) : l.reverse.take (k + 1) = l.reverse.take k ++ [l[J]'hJl] := by
  rw [List.take_succ_eq_append_getElem (by simpa using h), List.getElem_reverse]
  congr 3
  omega
set_option maxHeartbeats 1000000 in
set_option maxRecDepth 100000 in
theorem turned_call (v : Value) (l : EL) (w : World) (h : FS w v l) (hn : l.length ≤ big) : Calls Tryz.prog 67 #[v] w fun e w' => NewE l.reverse w e w' := by
  have HF := hid_of h
  obtain ⟨a, c, rfl, hc, h'⟩ := h
  have hn9 : l.length ≤ 9000000000000 := hn
  have e0 : IntKind.i64.wrap ((l.length : Int) - 1) = (l.length : Int) - 1 := IntWalk.i64_in _ (by omega)
  clear h'
  go_enter Tryz.func67, Tryz.ntmps67
  go_wp2_with fail
  go_loopg [3, 4] l.length (fun g s3 s4 wx => ∃ (k : Nat) (va : Option Addr) (vc : Nat), k ≤ l.length ∧ l.length ≤ k + g ∧ s3 = .slice va k vc ∧ s4 = .int .i64 ((l.length : Int) - 1 - (k : Int)) ∧ Hid (Bd w (.slice va k vc) (l.reverse.take k) wx))
  case atStart => exact ⟨0, none, 0, by omega, by omega, rfl, by simp, hid_of (bd_start w)⟩
  case round =>
    obtain ⟨k, va, vc, hk, hg, rfl, hs4, B⟩ := hrel
    by_cases hlt : k < l.length
    · obtain ⟨g', rfl⟩ : ∃ g', gk = g' + 1 := ⟨gk - 1, by omega⟩
      obtain ⟨J, hJ⟩ : ∃ J, J + 1 + k = l.length := ⟨l.length - 1 - k, by omega⟩
      have hJl : J < l.length := by omega
      rw [show (l.length : Int) - 1 - (k : Int) = (J : Int) by omega] at hs4
      subst hs4
      obtain ⟨gb, o, rfl, hat⟩ := (HF.out.below B.out.bel).at hlt
      obtain ⟨c0, c1⟩ := hat J hJl
      have bA := bnew wr (.cells #[.string (mk (l[J]'hJl).1), .int .i64 (l[J]'hJl).2] 46)
      obtain ⟨v2, w2, hr2, bd2⟩ := bd_app (B.out.below bA) (.slice (some ⟨wr.heap.size, 0, none⟩) 1 1) [l[J]'hJl] (fs_one' wr _) (by rw [List.length_take, List.length_reverse]; unfold big at *; simp only [List.length_cons, List.length_nil]; omega)
      rw [← rev_take l k hlt J hJ hJl] at bd2
      obtain ⟨va2, vc2, hv2, _⟩ := fs_row bd2.row
      rw [List.length_take, List.length_reverse, Nat.min_eq_left (by omega)] at hv2
      subst hv2
      have B2 := hid_of bd2
      have e2 : IntKind.i64.wrap ((J : Int) - 1) = (J : Int) - 1 := IntWalk.i64_in _ (by omega)
      have g1 : (0 : Int) ≤ (J : Int) := by omega
      have g2 : (J : Int) < (l.length : Int) := by omega
      clear hat bA bd2 B
      generalize mk (l[J]'hJl).1 = X at *
      generalize (l[J]'hJl).2 = xx at *
      go_wp2_with (first
        | (at_builtin; refine wpl_eq rfl _ _ 22 22 rfl (.slice va k vc) (.slice (some ⟨wr.heap.size, 0, none⟩) 1 1) (.slice va2 (k + 1) vc2) _ w2 rfl rfl hr2 ?_; clear hr2))
      go_roundg g'
      case measure => omega
      case rel => exact ⟨k + 1, va2, vc2, by omega, by omega, rfl, by rw [show (J : Int) - 1 = (l.length : Int) - 1 - ((k + 1 : Nat) : Int) by omega], B2⟩
    · have gi : ¬ (0 : Int) ≤ (l.length : Int) - 1 - (k : Int) := by omega
      have HB := hid_of (show Bd w (.slice va k vc) l.reverse wr by have := B.out; rwa [List.take_of_length_le (by simp; omega)] at this)
      subst hs4
      clear B
      go_wp2_with fail
      go_ret
      exact ⟨_, rfl, HB.out.row, HB.out.bel⟩
def RR (B : Nat) (L : EL) (w : World) (e : Ending) (w' : World) : Prop := ∃ v', e = .returned v' ∧ FS w' v' L ∧ Kp B w' v' ∧ Below w.heap.size w w'
theorem way_f (l : EL) : way l false = l := rfl
theorem way_t (l : EL) : way l true = l.reverse := rfl
set_option maxRecDepth 100000 in
theorem way_call (B : Nat) (v : Value) (l : EL) (r : Bool) (w : World) (h : FS w v l) (hk : Kp B w v) (hn : l.length ≤ big) : Calls Tryz.prog 62 #[v, .bool r] w fun e w' => RR B (way l r) w e w' := by
  have H1 := hid_of (turned_call v l w h hn)
  have HF := hid_of (And.intro h hk)
  obtain ⟨a, c, rfl, hc, h'⟩ := h
  clear h' hk
  cases r with
  | true =>
    rw [way_t]
    go_enter Tryz.func62, Tryz.ntmps62
    go_wp2_with fail
    refine H1.out.mono ?_
    rintro e w1 ⟨v1, rfl, o1, b1⟩
    obtain ⟨a1, c1, hv, _⟩ := id (fs_row o1)
    rw [List.length_reverse] at hv
    subst hv
    have HO := hid_of (And.intro o1 b1)
    clear o1 b1
    go_wp2_with fail
    go_ret
    exact ⟨_, rfl, fs_row HO.out.1, kp_row HO.out.1, HO.out.2⟩
  | false =>
    rw [way_f]
    go_enter Tryz.func62, Tryz.ntmps62
    go_wp2_with fail
    go_ret
    exact ⟨_, rfl, HF.out.1, HF.out.2, Below.refl _ _⟩
theorem clamp_int (x : Int) (n : Nat) : max (0 : Int) (min x (n : Int)) = (clampS x n : Int) := by unfold clampS; omega
theorem clampS_le (x : Int) (n : Nat) : clampS x n ≤ n := by unfold clampS; omega
set_option maxRecDepth 100000 in
theorem cut_call (B : Nat) (v : Value) (l : EL) (skip most : Int) (w : World) (h : FS w v l) (hk : Kp B w v) (hn : l.length ≤ big) : Calls Tryz.prog 65 #[v, .int .i64 skip, .int .i64 most] w fun e w' => RR B (cutS l skip most) w e w' := by
  have hn9 : l.length ≤ 9000000000000 := hn
  have HK := hid_of hk
  have HF := hid_of h
  obtain ⟨a, c, rfl, hc, h'⟩ := h
  obtain ⟨K, HKd⟩ : ∃ K, Hid (K = clampS skip l.length) := ⟨_, hid_of rfl⟩
  have hKl : K ≤ l.length := by rw [HKd.out]; exact clampS_le _ _
  have hmx : max (0 : Int) (min skip (l.length : Int)) = (K : Int) := by rw [HKd.out]; exact clamp_int _ _
  have HD := hid_of (HF.out.drop K hKl)
  have hcut1 := cut_lo a l.length c K hKl
  have HKD := hid_of (kp_drop HK.out K (l.length - K) (c - K))
  have HL : Hid ((l.drop K).length = l.length - K) := hid_of List.length_drop
  clear h' hk
  by_cases hm : 0 ≤ most
  · by_cases hml : most < ((l.length - K : Nat) : Int)
    · obtain ⟨M, rfl⟩ : ∃ M : Nat, most = (M : Int) := ⟨most.toNat, by omega⟩
      have hMl : M < l.length - K := by omega
      have HE : Hid (cutS l skip (M : Int) = (l.drop K).take M) := by unfold cutS; rw [if_pos hm, ← HKd.out]; exact hid_of rfl
      have hcut2 := cut_hi (ca a c K) (l.length - K) (c - K) M (by omega)
      have HT := hid_of (FS.take (l := l.drop K) (c := c - K) (a := ca a c K) (w := w) (by rw [HL.out]; exact HD.out) M (by rw [HL.out]; omega))
      have HKT := hid_of (kp_take HKD.out M (c - K))
      have hml' : (M : Int) < (l.length : Int) - (K : Int) := by omega
      have hcast : ((l.length - K : Nat) : Int) = (l.length : Int) - (K : Int) := by omega
      go_enter Tryz.func65, Tryz.ntmps65
      go_wp2_with fail
      go_ret
      exact ⟨_, rfl, by rw [HE.out]; exact HT.out, HKT.out, Below.refl _ _⟩
    · have HE : Hid (cutS l skip most = l.drop K) := by unfold cutS; rw [if_pos hm, ← HKd.out]; exact hid_of (List.take_of_length_le (by rw [HL.out]; omega))
      have hml' : ¬ most < (l.length : Int) - (K : Int) := by omega
      have hcast : ((l.length - K : Nat) : Int) = (l.length : Int) - (K : Int) := by omega
      go_enter Tryz.func65, Tryz.ntmps65
      go_wp2_with fail
      go_ret
      exact ⟨_, rfl, by rw [HE.out]; exact HD.out, HKD.out, Below.refl _ _⟩
  · have HE : Hid (cutS l skip most = l.drop K) := by unfold cutS; rw [if_neg hm, ← HKd.out]; exact hid_of rfl
    go_enter Tryz.func65, Tryz.ntmps65
    go_wp2_with fail
    go_ret
    exact ⟨_, rfl, by rw [HE.out]; exact HD.out, HKD.out, Below.refl _ _⟩
theorem order_call (a b : Int) (w : World) : Calls Tryz.prog 64 #[.int .i64 a, .int .i64 b] w fun e w' => e = .returned (.int .i64 (cmpI a b)) ∧ w' = w := by
  by_cases h1 : a < b
  · have HE : Hid (cmpI a b = -1) := by unfold cmpI; rw [if_pos h1]; exact hid_of rfl
    go_enter Tryz.func64, Tryz.ntmps64
    go_wp2
    go_ret
    exact ⟨by rw [HE.out]; rfl, rfl⟩
  · by_cases h2 : b < a
    · have HE : Hid (cmpI a b = 1) := by unfold cmpI; rw [if_neg h1, if_pos h2]; exact hid_of rfl
      go_enter Tryz.func64, Tryz.ntmps64
      go_wp2
      go_ret
      exact ⟨by rw [HE.out]; rfl, rfl⟩
    · have HE : Hid (cmpI a b = 0) := by unfold cmpI; rw [if_neg h1, if_neg h2]; exact hid_of rfl
      go_enter Tryz.func64, Tryz.ntmps64
      go_wp2
      go_ret
      exact ⟨by rw [HE.out]; rfl, rfl⟩
theorem texts_call (a b : Bs) (w : World) : Calls Tryz.prog 66 #[.string (mk a), .string (mk b)] w fun e w' => e = .returned (.int .i64 (cmpB a b)) ∧ w' = w := by
  have l1 := less_mk a b
  have l2 := less_mk b a
  have l3 := str_eq a b
  by_cases h1 : a < b
  · have HE : Hid (cmpB a b = -1) := by unfold cmpB; rw [if_pos h1]; exact hid_of rfl
    rw [decide_eq_true h1] at l1
    clear h1
    generalize mk a = X at *
    generalize mk b = Y at *
    go_enter Tryz.func66, Tryz.ntmps66
    go_wp2
    go_ret
    exact ⟨by rw [HE.out]; rfl, rfl⟩
  · rw [decide_eq_false h1] at l1
    by_cases h2 : b < a
    · have HE : Hid (cmpB a b = 1) := by unfold cmpB; rw [if_neg h1, if_pos h2]; exact hid_of rfl
      rw [decide_eq_true h2] at l2
      rw [show (a == b) = false from by simpa using fun e => by rw [e] at h2; exact List.lt_irrefl _ h2] at l3
      clear h1 h2
      generalize mk a = X at *
      generalize mk b = Y at *
      go_enter Tryz.func66, Tryz.ntmps66
      go_wp2
      go_ret
      exact ⟨by rw [HE.out]; rfl, rfl⟩
    · have HE : Hid (cmpB a b = 0) := by unfold cmpB; rw [if_neg h1, if_neg h2]; exact hid_of rfl
      rw [decide_eq_false h2] at l2
      rw [show (a == b) = true from by simpa using List.le_antisymm (List.not_lt.1 h2) (List.not_lt.1 h1)] at l3
      clear h1 h2
      generalize mk a = X at *
      generalize mk b = Y at *
      go_enter Tryz.func66, Tryz.ntmps66
      go_wp2
      go_ret
      exact ⟨by rw [HE.out]; rfl, rfl⟩
end Go.Proofs.YtighoelipihifaaGreatDoor.PlaysA
