/- The mathematics of places that are found. Find. Find. -/
import Derived.Test.YtpibeabokedpdaaGreatDoorDqPopM
import Derived.Test.YtpibeabokedpdaaGreatDoorDqSPopM
import Derived.Lib.Strings
section
namespace Go.Proofs.YtpibeabokedpdaaGreatDoor.DqFindMath
variable {α : Type} [DecidableEq α]
/-- the place that is looked at as the k-th -/
def way (n : Nat) (back : Bool) (k : Nat) : Nat := if back then n - 1 - k else k
/-- the places of v among the first m that are looked at -/
def hits (l : List α) (v : α) (back : Bool) (m : Nat) : List Nat := ((List.range m).map (way l.length back)).filter fun i => decide (l[i]? = some v)
def takeC (c : Int) (xs : List Nat) : List Nat := if c < 1 then xs else xs.take c.toNat
def findN (l : List α) (v : α) (r : Nat) (back : Bool) (c : Int) (m : Nat) : List Nat := takeC c ((hits l v back m).drop (r - 1))
theorem hits_zero (l : List α) (v : α) (back : Bool) : hits l v back 0 = [] := rfl
theorem hits_succ (l : List α) (v : α) (back : Bool) (k : Nat) : hits l v back (k + 1) = if l[way l.length back k]? = some v then hits l v back k ++ [way l.length back k] else hits l v back k := by
  unfold hits
  rw [List.range_succ, List.map_append, List.filter_append]
  by_cases h : l[way l.length back k]? = some v
  · rw [if_pos h]; simp [h]
  · rw [if_neg h]; simp [h]
theorem hits_pre (l : List α) (v : α) (back : Bool) (k m : Nat) (h : k ≤ m) : ∃ rest, hits l v back m = hits l v back k ++ rest := by
  induction m with
  | zero => exact ⟨[], by rw [show k = 0 by omega]; rfl⟩
  | succ m ih =>
    by_cases q : k = m + 1
    · subst q; exact ⟨[], by simp⟩
    · obtain ⟨rest, hr⟩ := ih (by omega)
      rw [hits_succ]
      split
      · exact ⟨rest ++ [_], by rw [hr, List.append_assoc]⟩
      · exact ⟨rest, hr⟩
theorem hits_len (l : List α) (v : α) (back : Bool) (m : Nat) : (hits l v back m).length ≤ m := by
  have := List.length_filter_le (fun i => decide (l[i]? = some v)) ((List.range m).map (way l.length back))
  simpa [hits] using this
theorem way_lt {n k : Nat} (back : Bool) (h : k < n) : way n back k < n := by unfold way; split <;> omega
/-- a round that finds nothing -/
theorem no_hit {l : List α} {v : α} {back : Bool} {k : Nat} (h : ¬ l[way l.length back k]? = some v) : hits l v back (k + 1) = hits l v back k := by rw [hits_succ, if_neg h]
theorem hit {l : List α} {v : α} {back : Bool} {k : Nat} (h : l[way l.length back k]? = some v) : hits l v back (k + 1) = hits l v back k ++ [way l.length back k] := by rw [hits_succ, if_pos h]
/-- so many as were asked for have been found -/
theorem full_find {l : List α} {v : α} {back : Bool} {r k m : Nat} {c : Int} (hk : k ≤ m) (hc : 0 < c) (h : (((hits l v back k).drop (r - 1)).length : Int) = c) : (hits l v back k).drop (r - 1) = findN l v r back c m := by
  obtain ⟨rest, hr⟩ := hits_pre l v back k m hk
  unfold findN takeC
  rw [if_neg (by omega), hr]
  have hl : r - 1 ≤ (hits l v back k).length := by
    rw [List.length_drop] at h
    omega
  rw [List.drop_append_of_le_length hl, List.take_append_of_le_length (by omega), List.take_of_length_le (by omega)]
/-- not so many yet -/
theorem less_find {l : List α} {v : α} {back : Bool} {r m : Nat} {c : Int} (h : c < 1 ∨ (((hits l v back m).drop (r - 1)).length : Int) < c) : (hits l v back m).drop (r - 1) = findN l v r back c m := by
  unfold findN takeC
  split
  · rfl
  · rw [List.take_of_length_le (by omega)]
end Go.Proofs.YtpibeabokedpdaaGreatDoor.DqFindMath
end
section
namespace Go.Proofs.YtpibeabokedpdaaGreatDoor.DqFind
open Go.RowKit
open Go.Proofs.YtpibeabokedpdaaGreatDoor.DqBase
open Go.Proofs.YtpibeabokedpdaaGreatDoor.DqHeld
open Go.Proofs.YtpibeabokedpdaaGreatDoor.DqLay
open Go.Proofs.YtpibeabokedpdaaGreatDoor.DqFree
open Go.Proofs.YtpibeabokedpdaaGreatDoor.DqPush
open Go.Proofs.YtpibeabokedpdaaGreatDoor.DqKeep
open Go.Proofs.YtpibeabokedpdaaGreatDoor.DqPop
open Go.Proofs.YtpibeabokedpdaaGreatDoor.DqPlace
open Go.Proofs.YtpibeabokedpdaaGreatDoor.DqApp
open Go.Proofs.YtpibeabokedpdaaGreatDoor.DqSelf
open Go.Proofs.YtpibeabokedpdaaGreatDoor.DqFindMath
set_option linter.unusedVariables false
set_option linter.unusedSimpArgs false
def ints (l : List Nat) : List Int := l.map fun k : Nat => (k : Int)
theorem ints_len (l : List Nat) : (ints l).length = l.length := by simp [ints]
/-- how many places are looked at -/
def looked (n : Nat) (most : Int) : Nat := if most < 1 then n else if most ≤ n then most.toNat else n
theorem looked_le (n : Nat) (most : Int) : looked n most ≤ n := by unfold looked; split <;> (try split) <;> omega
/-- the places that are found -/
def findS (l : List El) (v : El) (rank count most : Int) : List Int := if rank = 0 then [] else ints (findN l v rank.natAbs (decide (rank < 0)) count (looked l.length most))
end Go.Proofs.YtpibeabokedpdaaGreatDoor.DqFind
end
section
namespace Go.Proofs.YtpibeabokedpdaaGreatDoor.DqSFind
open Go.RowKit
open Go.Proofs.YtpibeabokedpdaaGreatDoor.DqSBase
open Go.Proofs.YtpibeabokedpdaaGreatDoor.DqBase (Fr Gr ptr hid_of lt_of set_at set_ne size_set row_ne size_row add_off bel_drewN ca ca_some ca_zero cell_lt)
open Go.Proofs.YtpibeabokedpdaaGreatDoor.DqSHeld
open Go.Proofs.YtpibeabokedpdaaGreatDoor.DqSLay
open Go.Proofs.YtpibeabokedpdaaGreatDoor.DqSFree
open Go.Proofs.YtpibeabokedpdaaGreatDoor.DqSPush
open Go.Proofs.YtpibeabokedpdaaGreatDoor.DqSKeep
open Go.Proofs.YtpibeabokedpdaaGreatDoor.DqSPop
open Go.Proofs.YtpibeabokedpdaaGreatDoor.DqSPlace
open Go.Proofs.YtpibeabokedpdaaGreatDoor.DqSApp
open Go.Proofs.YtpibeabokedpdaaGreatDoor.DqSSelf
open Go.Proofs.YtpibeabokedpdaaGreatDoor.DqFindMath
open Go.Proofs.YtpibeabokedpdaaGreatDoor.DqFind (ints ints_len looked looked_le)
set_option linter.unusedVariables false
set_option linter.unusedSimpArgs false
theorem bts_ne {x y : El} (h : x ≠ y) : (x.toList == y.toList) = false := by
  rw [beq_eq_false_iff_ne]
  intro e
  apply h
  rw [Lib.toList_data, Lib.toList_data] at e
  cases x; cases y
  simp at e
  rw [e]
/-- the places that are found -/
def findS (l : List El) (v : El) (rank count most : Int) : List Int := if rank = 0 then [] else ints (findN l v rank.natAbs (decide (rank < 0)) count (looked l.length most))
set_option maxHeartbeats 8000000 in
set_option maxRecDepth 100000 in
theorem find_pos {F : Nat → Prop} {b : Nat} {l : List El} {w : World} (h : DQ F b l w) (v : El) (r : Nat) (count most : Int) (hr : 0 < r) (hr2 : r ≤ 9223372036854775807) (hb : l.length * 16 ≤ 140737488355328) :
    Calls Tryz.prog 79 #[ptr b, V v, .int .i64 ((r : Int)), .int .i64 count, .int .i64 most] w fun e w' => ∃ v', e = .returned v' ∧ DqBase.NR w.heap.size w' v' (ints (findN l v r false count (looked l.length most))) ∧ Below w.heap.size w w' := by
  have HS := hid_of (fun W => self_call v W)
  obtain ⟨M, HM⟩ : ∃ M, Hid (M = looked l.length most) := ⟨_, hid_of rfl⟩
  rw [← HM.out]
  have hM : M ≤ l.length := by rw [HM.out]; exact looked_le _ _
  have hcase : (most < 1 ∧ M = l.length) ∨ (1 ≤ most ∧ most ≤ l.length ∧ (M : Int) = most) ∨ (1 ≤ most ∧ (l.length : Int) < most ∧ M = l.length) := by
    rw [HM.out]; unfold looked
    split
    · exact .inl ⟨by omega, rfl⟩
    · split
      · exact .inr (.inl ⟨by omega, by omega, by omega⟩)
      · exact .inr (.inr ⟨by omega, by omega, rfl⟩)
  obtain ⟨a, n, c, f, xs, h⟩ := h
  have HH0 := hid_of (held_call h)
  have HR := hid_of h.rd
  have hl : l.length ≤ 35184372088832 := by have := h.fit; have := h.lim; omega
  generalize ca a c f = ha at *
  generalize c - f = hc at *
  clear h HM
  obtain ⟨R, HR2⟩ : ∃ R : Int, Hid (R = (r : Int)) := ⟨_, hid_of rfl⟩
  have r0 : 0 < R := by rw [HR2.out]; omega
  have r1 : R ≤ 9223372036854775807 := by rw [HR2.out]; omega
  rw [← HR2.out]
  have n1 : (R == 0) = false := by rw [beq_eq_false_iff_ne]; omega
  have n2 : (R == -9223372036854775808) = false := by rw [beq_eq_false_iff_ne]; omega
  have n3 : IntKind.i64.wrap (-R) = -R := IntWalk.i64_in _ (by omega)
  have n4 : ¬ R < -R := by omega
  have n6 : ¬ R < 0 := by omega
  obtain ⟨Q, HQ⟩ : ∃ Q : Int, Hid (Q = R - 1) := ⟨_, hid_of rfl⟩
  have n5 : R - 1 = Q := HQ.out.symm
  have n7 : IntKind.i64.wrap Q = Q := IntWalk.i64_in _ (by omega)
  rcases hcase with ⟨k1, k2⟩ | ⟨k1, k2, k3⟩ | ⟨k1, k2, k3⟩
  · subst k2
    go_enter Tryz.func79, Tryz.ntmps79
    go_wp2_with fail
    refine (HS.out _).mono ?_
    rintro e w1 ⟨rfl, hw1⟩
    rw [hw1]
    clear hw1
    go_wp2_with fail
    refine HH0.out.mono ?_
    rintro e w1 ⟨rfl, m1, rfl⟩
    go_wp2_with fail
    go_loopg [43, 13, 11] (l.length) (fun g s43 s13 s11 wx => ∃ (i : Nat) (E : Nat) (a' : Option Addr) (N c' : Nat), i ≤ l.length ∧ l.length ≤ i + g ∧ s43 = .int .i64 (i : Int) ∧ s13 = .int .i64 (E : Int) ∧ s11 = .slice a' N c' ∧ (count < 1 ∨ (0 < count ∧ (N : Int) < count)) ∧ Hid (E = r - 1 - (hits l v false i).length ∧ N = ((hits l v false i).drop (r - 1)).length ∧ DqBase.NR w.heap.size wx (.slice a' N c') (ints ((hits l v false i).drop (r - 1))) ∧ Below w.heap.size w wx))
    case atStart =>
      refine ⟨0, r - 1, none, 0, 0, by omega, by omega, rfl, ?_, rfl, by omega, ?_⟩
      · rw [HQ.out, HR2.out]; congr 1; omega
      · exact ⟨by simp [hits_zero], by simp [hits_zero], .inl ⟨rfl, by simp [hits_zero, ints]⟩, bel_drewN w m1⟩
    case round =>
      obtain ⟨i, E, a', N, c', hi, hg, rfl, rfl, rfl, hcs, R0⟩ := hrel
      by_cases hlt : i < l.length
      · obtain ⟨g', rfl⟩ : ∃ g', gk = g' + 1 := ⟨gk - 1, by omega⟩
        have hil : i < l.length := by omega
        obtain ⟨p, HP⟩ : ∃ p, Hid (p = way l.length false i) := ⟨_, hid_of rfl⟩
        have hp : p < l.length := by rw [HP.out]; exact way_lt _ hil
        have HPP := hid_of (show p = i by rw [HP.out]; rfl)
        obtain rfl : i = p := HPP.out.symm
        have HPW := hid_of (show way l.length false i = i from HP.out.symm)
        obtain ⟨e1, e2, nr, bl⟩ := R0.out
        obtain ⟨g0, o0, rfl, _, hc0⟩ : ∃ g o, ha = some ⟨g, o, none⟩ ∧ F g ∧ ∀ j x, l[j]? = some x → wr.cell? ⟨g, o + j, none⟩ = some (V x) := by
          rcases HR.out.keep (w' := wr) (fun k hk _ => bl.block k hk) with e | q
          · rw [e] at hp; simp at hp
          · exact q
        have cx := hc0 i _ (List.getElem?_eq_getElem hp)
        have HN := hid_of (And.intro e1 (And.intro e2 (And.intro nr bl)))
        have hNl : N ≤ i := by rw [e2, List.length_drop]; have := hits_len l v false i; omega
        have hEb : E ≤ 9223372036854775807 := by rw [e1]; omega
        have bE : (E : Int) ≤ 9223372036854775807 := by omega
        clear R0 e1 e2 nr bl hc0
        by_cases hv : l[i] = v
        · rw [hv] at cx
          have HH2 := hid_of (hit (l := l) (v := v) (back := false) (k := i) (by rw [HPW.out, List.getElem?_eq_getElem hp, hv]))
          rw [HPW.out] at HH2
          by_cases hE : 0 < E
          · have gE : (0 : Int) < (E : Int) := by omega
            have HX := hid_of (show E - 1 = r - 1 - (hits l v false (i + 1)).length ∧ N = ((hits l v false (i + 1)).drop (r - 1)).length ∧ (hits l v false (i + 1)).drop (r - 1) = (hits l v false i).drop (r - 1) by
              obtain ⟨e1, e2, _⟩ := HN.out
              have z1 : (hits l v false i).drop (r - 1) = [] := List.drop_eq_nil_of_le (by omega)
              have z2 : (hits l v false (i + 1)).drop (r - 1) = [] := List.drop_eq_nil_of_le (by rw [HH2.out]; simp; omega)
              refine ⟨by rw [HH2.out]; simp; omega, ?_, by rw [z1, z2]⟩
              rw [e2, z1, z2])
            clear HH2 hv
            rcases hcs with q1 | ⟨q1, q2⟩
            · have q3 : ¬ 0 < count := by omega
              go_wp2_with fail
              go_roundg g'
              case measure => omega
              case rel => exact ⟨i + 1, E - 1, a', N, c', by omega, by omega, by simp, by congr 1; omega, rfl, .inl q1, ⟨HX.out.1, HX.out.2.1, by rw [HX.out.2.2]; exact HN.out.2.2.1, HN.out.2.2.2⟩⟩
            · have q3 : ((N : Int) == count) = false := by rw [beq_eq_false_iff_ne]; omega
              go_wp2_with fail
              go_roundg g'
              case measure => omega
              case rel => exact ⟨i + 1, E - 1, a', N, c', by omega, by omega, by simp, by congr 1; omega, rfl, .inr ⟨q1, q2⟩, ⟨HX.out.1, HX.out.2.1, by rw [HX.out.2.2]; exact HN.out.2.2.1, HN.out.2.2.2⟩⟩
          · obtain rfl : E = 0 := by omega
            have gE : ¬ (0 : Int) < ((0 : Nat) : Int) := by omega
            have HX := hid_of (show 0 = r - 1 - (hits l v false (i + 1)).length ∧ (hits l v false (i + 1)).drop (r - 1) = (hits l v false i).drop (r - 1) ++ [i] by
              obtain ⟨e1, e2, _⟩ := HN.out
              refine ⟨by rw [HH2.out]; simp; omega, ?_⟩
              rw [HH2.out, List.drop_append_of_le_length (by omega)])
            obtain ⟨v2, w2, hrun, hn2, hb2⟩ := DqApp.app_one (i : Int) HN.out.2.2.1 (by rw [ints_len, ← HN.out.2.1]; omega) HN.out.2.2.2.size 127
            obtain ⟨a2, c2, rfl, hc2⟩ : ∃ a2 c2, v2 = .slice a2 (N + 1) c2 ∧ N + 1 ≤ c2 := by
              obtain ⟨a2, c2, e, h2, _⟩ := DqFree.NR.shape hn2
              rw [List.length_append, ints_len, ← HN.out.2.1] at e h2
              exact ⟨a2, c2, e, h2⟩
            have HY := hid_of (And.intro (show DqBase.NR w.heap.size w2 (.slice a2 (N + 1) c2) (ints ((hits l v false (i + 1)).drop (r - 1))) by rw [HX.out.2]; simpa [ints] using hn2) (And.intro (HN.out.2.2.2.trans hb2) (show N + 1 = ((hits l v false (i + 1)).drop (r - 1)).length by rw [HX.out.2, List.length_append, ← HN.out.2.1]; rfl)))
            clear hn2 hb2 HH2 hv hc2
            rcases hcs with q1 | ⟨q1, q2⟩
            · have q3 : ¬ 0 < count := by omega
              go_wp2_with (at_builtin; refine wpl_eq rfl _ _ 127 127 rfl (.slice a' N c') (.slice (some ⟨wr.heap.size, 0, none⟩) 1 1) (.slice a2 (N + 1) c2) _ w2 rfl rfl hrun ?_)
              go_roundg g'
              case measure => omega
              case rel => exact ⟨i + 1, 0, a2, N + 1, c2, by omega, by omega, by simp, rfl, rfl, .inl q1, ⟨HX.out.1, HY.out.2.2, HY.out.1, HY.out.2.1⟩⟩
            · by_cases q4 : (N : Int) + 1 = count
              · have q3 : (((N : Int) + 1) == count) = true := by rw [beq_iff_eq]; exact q4
                have HZ := hid_of (show (hits l v false (i + 1)).drop (r - 1) = findN l v r false count (l.length) from full_find (by omega) q1 (by rw [← HY.out.2.2]; omega))
                have HQ4 := hid_of q4
                clear q4
                go_wp2_with (at_builtin; refine wpl_eq rfl _ _ 127 127 rfl (.slice a' N c') (.slice (some ⟨wr.heap.size, 0, none⟩) 1 1) (.slice a2 (N + 1) c2) _ w2 rfl rfl hrun ?_)
                go_ret
                exact ⟨_, rfl, by rw [← HZ.out]; exact HY.out.1, HY.out.2.1⟩
              · have q3 : (((N : Int) + 1) == count) = false := by rw [beq_eq_false_iff_ne]; exact q4
                go_wp2_with (at_builtin; refine wpl_eq rfl _ _ 127 127 rfl (.slice a' N c') (.slice (some ⟨wr.heap.size, 0, none⟩) 1 1) (.slice a2 (N + 1) c2) _ w2 rfl rfl hrun ?_)
                go_roundg g'
                case measure => omega
                case rel => exact ⟨i + 1, 0, a2, N + 1, c2, by omega, by omega, by simp, rfl, rfl, .inr ⟨q1, by omega⟩, ⟨HX.out.1, HY.out.2.2, HY.out.1, HY.out.2.1⟩⟩
        · have HH2 := hid_of (no_hit (l := l) (v := v) (back := false) (k := i) (by rw [HPW.out, List.getElem?_eq_getElem hp]; exact fun e => hv (Option.some.inj e)))
          have hvv : (l[i].toList == v.toList) = false := bts_ne hv
          have HX := hid_of (show E = r - 1 - (hits l v false (i + 1)).length ∧ N = ((hits l v false (i + 1)).drop (r - 1)).length ∧ (hits l v false (i + 1)).drop (r - 1) = (hits l v false i).drop (r - 1) by
            obtain ⟨e1, e2, _⟩ := HN.out
            rw [HH2.out]; exact ⟨e1, e2, rfl⟩)
          generalize l[i] = x at *
          clear HH2 hv
          rcases hcs with q1 | ⟨q1, q2⟩
          · have q3 : ¬ 0 < count := by omega
            go_wp2_with fail
            go_roundg g'
            case measure => omega
            case rel => exact ⟨i + 1, E, a', N, c', by omega, by omega, by simp, rfl, rfl, .inl q1, ⟨HX.out.1, HX.out.2.1, by rw [HX.out.2.2]; exact HN.out.2.2.1, HN.out.2.2.2⟩⟩
          · have q3 : ((N : Int) == count) = false := by rw [beq_eq_false_iff_ne]; omega
            go_wp2_with fail
            go_roundg g'
            case measure => omega
            case rel => exact ⟨i + 1, E, a', N, c', by omega, by omega, by simp, rfl, rfl, .inr ⟨q1, q2⟩, ⟨HX.out.1, HX.out.2.1, by rw [HX.out.2.2]; exact HN.out.2.2.1, HN.out.2.2.2⟩⟩
      · have hiM : i = l.length := by omega
        subst hiM
        have HZ := hid_of (show (hits l v false (l.length)).drop (r - 1) = findN l v r false count (l.length) from less_find (by rw [← R0.out.2.1]; omega))
        have HN := hid_of R0.out
        clear R0
        go_wp2_with fail
        go_ret
        exact ⟨_, rfl, by rw [← HZ.out]; exact HN.out.2.2.1, HN.out.2.2.2⟩

  · subst k3
    have k4 : ¬ (M : Int) < 1 := by omega
    have k5 : ¬ (l.length : Int) < (M : Int) := by omega
    go_enter Tryz.func79, Tryz.ntmps79
    go_wp2_with fail
    refine (HS.out _).mono ?_
    rintro e w1 ⟨rfl, hw1⟩
    rw [hw1]
    clear hw1
    go_wp2_with fail
    refine HH0.out.mono ?_
    rintro e w1 ⟨rfl, m1, rfl⟩
    go_wp2_with fail
    go_loopg [43, 13, 11] (M) (fun g s43 s13 s11 wx => ∃ (i : Nat) (E : Nat) (a' : Option Addr) (N c' : Nat), i ≤ M ∧ M ≤ i + g ∧ s43 = .int .i64 (i : Int) ∧ s13 = .int .i64 (E : Int) ∧ s11 = .slice a' N c' ∧ (count < 1 ∨ (0 < count ∧ (N : Int) < count)) ∧ Hid (E = r - 1 - (hits l v false i).length ∧ N = ((hits l v false i).drop (r - 1)).length ∧ DqBase.NR w.heap.size wx (.slice a' N c') (ints ((hits l v false i).drop (r - 1))) ∧ Below w.heap.size w wx))
    case atStart =>
      refine ⟨0, r - 1, none, 0, 0, by omega, by omega, rfl, ?_, rfl, by omega, ?_⟩
      · rw [HQ.out, HR2.out]; congr 1; omega
      · exact ⟨by simp [hits_zero], by simp [hits_zero], .inl ⟨rfl, by simp [hits_zero, ints]⟩, bel_drewN w m1⟩
    case round =>
      obtain ⟨i, E, a', N, c', hi, hg, rfl, rfl, rfl, hcs, R0⟩ := hrel
      by_cases hlt : i < M
      · obtain ⟨g', rfl⟩ : ∃ g', gk = g' + 1 := ⟨gk - 1, by omega⟩
        have hil : i < l.length := by omega
        obtain ⟨p, HP⟩ : ∃ p, Hid (p = way l.length false i) := ⟨_, hid_of rfl⟩
        have hp : p < l.length := by rw [HP.out]; exact way_lt _ hil
        have HPP := hid_of (show p = i by rw [HP.out]; rfl)
        obtain rfl : i = p := HPP.out.symm
        have HPW := hid_of (show way l.length false i = i from HP.out.symm)
        obtain ⟨e1, e2, nr, bl⟩ := R0.out
        obtain ⟨g0, o0, rfl, _, hc0⟩ : ∃ g o, ha = some ⟨g, o, none⟩ ∧ F g ∧ ∀ j x, l[j]? = some x → wr.cell? ⟨g, o + j, none⟩ = some (V x) := by
          rcases HR.out.keep (w' := wr) (fun k hk _ => bl.block k hk) with e | q
          · rw [e] at hp; simp at hp
          · exact q
        have cx := hc0 i _ (List.getElem?_eq_getElem hp)
        have HN := hid_of (And.intro e1 (And.intro e2 (And.intro nr bl)))
        have hNl : N ≤ i := by rw [e2, List.length_drop]; have := hits_len l v false i; omega
        have hEb : E ≤ 9223372036854775807 := by rw [e1]; omega
        have bE : (E : Int) ≤ 9223372036854775807 := by omega
        clear R0 e1 e2 nr bl hc0
        by_cases hv : l[i] = v
        · rw [hv] at cx
          have HH2 := hid_of (hit (l := l) (v := v) (back := false) (k := i) (by rw [HPW.out, List.getElem?_eq_getElem hp, hv]))
          rw [HPW.out] at HH2
          by_cases hE : 0 < E
          · have gE : (0 : Int) < (E : Int) := by omega
            have HX := hid_of (show E - 1 = r - 1 - (hits l v false (i + 1)).length ∧ N = ((hits l v false (i + 1)).drop (r - 1)).length ∧ (hits l v false (i + 1)).drop (r - 1) = (hits l v false i).drop (r - 1) by
              obtain ⟨e1, e2, _⟩ := HN.out
              have z1 : (hits l v false i).drop (r - 1) = [] := List.drop_eq_nil_of_le (by omega)
              have z2 : (hits l v false (i + 1)).drop (r - 1) = [] := List.drop_eq_nil_of_le (by rw [HH2.out]; simp; omega)
              refine ⟨by rw [HH2.out]; simp; omega, ?_, by rw [z1, z2]⟩
              rw [e2, z1, z2])
            clear HH2 hv
            rcases hcs with q1 | ⟨q1, q2⟩
            · have q3 : ¬ 0 < count := by omega
              go_wp2_with fail
              go_roundg g'
              case measure => omega
              case rel => exact ⟨i + 1, E - 1, a', N, c', by omega, by omega, by simp, by congr 1; omega, rfl, .inl q1, ⟨HX.out.1, HX.out.2.1, by rw [HX.out.2.2]; exact HN.out.2.2.1, HN.out.2.2.2⟩⟩
            · have q3 : ((N : Int) == count) = false := by rw [beq_eq_false_iff_ne]; omega
              go_wp2_with fail
              go_roundg g'
              case measure => omega
              case rel => exact ⟨i + 1, E - 1, a', N, c', by omega, by omega, by simp, by congr 1; omega, rfl, .inr ⟨q1, q2⟩, ⟨HX.out.1, HX.out.2.1, by rw [HX.out.2.2]; exact HN.out.2.2.1, HN.out.2.2.2⟩⟩
          · obtain rfl : E = 0 := by omega
            have gE : ¬ (0 : Int) < ((0 : Nat) : Int) := by omega
            have HX := hid_of (show 0 = r - 1 - (hits l v false (i + 1)).length ∧ (hits l v false (i + 1)).drop (r - 1) = (hits l v false i).drop (r - 1) ++ [i] by
              obtain ⟨e1, e2, _⟩ := HN.out
              refine ⟨by rw [HH2.out]; simp; omega, ?_⟩
              rw [HH2.out, List.drop_append_of_le_length (by omega)])
            obtain ⟨v2, w2, hrun, hn2, hb2⟩ := DqApp.app_one (i : Int) HN.out.2.2.1 (by rw [ints_len, ← HN.out.2.1]; omega) HN.out.2.2.2.size 127
            obtain ⟨a2, c2, rfl, hc2⟩ : ∃ a2 c2, v2 = .slice a2 (N + 1) c2 ∧ N + 1 ≤ c2 := by
              obtain ⟨a2, c2, e, h2, _⟩ := DqFree.NR.shape hn2
              rw [List.length_append, ints_len, ← HN.out.2.1] at e h2
              exact ⟨a2, c2, e, h2⟩
            have HY := hid_of (And.intro (show DqBase.NR w.heap.size w2 (.slice a2 (N + 1) c2) (ints ((hits l v false (i + 1)).drop (r - 1))) by rw [HX.out.2]; simpa [ints] using hn2) (And.intro (HN.out.2.2.2.trans hb2) (show N + 1 = ((hits l v false (i + 1)).drop (r - 1)).length by rw [HX.out.2, List.length_append, ← HN.out.2.1]; rfl)))
            clear hn2 hb2 HH2 hv hc2
            rcases hcs with q1 | ⟨q1, q2⟩
            · have q3 : ¬ 0 < count := by omega
              go_wp2_with (at_builtin; refine wpl_eq rfl _ _ 127 127 rfl (.slice a' N c') (.slice (some ⟨wr.heap.size, 0, none⟩) 1 1) (.slice a2 (N + 1) c2) _ w2 rfl rfl hrun ?_)
              go_roundg g'
              case measure => omega
              case rel => exact ⟨i + 1, 0, a2, N + 1, c2, by omega, by omega, by simp, rfl, rfl, .inl q1, ⟨HX.out.1, HY.out.2.2, HY.out.1, HY.out.2.1⟩⟩
            · by_cases q4 : (N : Int) + 1 = count
              · have q3 : (((N : Int) + 1) == count) = true := by rw [beq_iff_eq]; exact q4
                have HZ := hid_of (show (hits l v false (i + 1)).drop (r - 1) = findN l v r false count (M) from full_find (by omega) q1 (by rw [← HY.out.2.2]; omega))
                have HQ4 := hid_of q4
                clear q4
                go_wp2_with (at_builtin; refine wpl_eq rfl _ _ 127 127 rfl (.slice a' N c') (.slice (some ⟨wr.heap.size, 0, none⟩) 1 1) (.slice a2 (N + 1) c2) _ w2 rfl rfl hrun ?_)
                go_ret
                exact ⟨_, rfl, by rw [← HZ.out]; exact HY.out.1, HY.out.2.1⟩
              · have q3 : (((N : Int) + 1) == count) = false := by rw [beq_eq_false_iff_ne]; exact q4
                go_wp2_with (at_builtin; refine wpl_eq rfl _ _ 127 127 rfl (.slice a' N c') (.slice (some ⟨wr.heap.size, 0, none⟩) 1 1) (.slice a2 (N + 1) c2) _ w2 rfl rfl hrun ?_)
                go_roundg g'
                case measure => omega
                case rel => exact ⟨i + 1, 0, a2, N + 1, c2, by omega, by omega, by simp, rfl, rfl, .inr ⟨q1, by omega⟩, ⟨HX.out.1, HY.out.2.2, HY.out.1, HY.out.2.1⟩⟩
        · have HH2 := hid_of (no_hit (l := l) (v := v) (back := false) (k := i) (by rw [HPW.out, List.getElem?_eq_getElem hp]; exact fun e => hv (Option.some.inj e)))
          have hvv : (l[i].toList == v.toList) = false := bts_ne hv
          have HX := hid_of (show E = r - 1 - (hits l v false (i + 1)).length ∧ N = ((hits l v false (i + 1)).drop (r - 1)).length ∧ (hits l v false (i + 1)).drop (r - 1) = (hits l v false i).drop (r - 1) by
            obtain ⟨e1, e2, _⟩ := HN.out
            rw [HH2.out]; exact ⟨e1, e2, rfl⟩)
          generalize l[i] = x at *
          clear HH2 hv
          rcases hcs with q1 | ⟨q1, q2⟩
          · have q3 : ¬ 0 < count := by omega
            go_wp2_with fail
            go_roundg g'
            case measure => omega
            case rel => exact ⟨i + 1, E, a', N, c', by omega, by omega, by simp, rfl, rfl, .inl q1, ⟨HX.out.1, HX.out.2.1, by rw [HX.out.2.2]; exact HN.out.2.2.1, HN.out.2.2.2⟩⟩
          · have q3 : ((N : Int) == count) = false := by rw [beq_eq_false_iff_ne]; omega
            go_wp2_with fail
            go_roundg g'
            case measure => omega
            case rel => exact ⟨i + 1, E, a', N, c', by omega, by omega, by simp, rfl, rfl, .inr ⟨q1, q2⟩, ⟨HX.out.1, HX.out.2.1, by rw [HX.out.2.2]; exact HN.out.2.2.1, HN.out.2.2.2⟩⟩
      · have hiM : M = i := by omega
        subst hiM
        have HZ := hid_of (show (hits l v false (M)).drop (r - 1) = findN l v r false count (M) from less_find (by rw [← R0.out.2.1]; omega))
        have HN := hid_of R0.out
        clear R0
        go_wp2_with fail
        go_ret
        exact ⟨_, rfl, by rw [← HZ.out]; exact HN.out.2.2.1, HN.out.2.2.2⟩

  · subst k3
    have k4 : ¬ most < 1 := by omega
    go_enter Tryz.func79, Tryz.ntmps79
    go_wp2_with fail
    refine (HS.out _).mono ?_
    rintro e w1 ⟨rfl, hw1⟩
    rw [hw1]
    clear hw1
    go_wp2_with fail
    refine HH0.out.mono ?_
    rintro e w1 ⟨rfl, m1, rfl⟩
    go_wp2_with fail
    go_loopg [43, 13, 11] (l.length) (fun g s43 s13 s11 wx => ∃ (i : Nat) (E : Nat) (a' : Option Addr) (N c' : Nat), i ≤ l.length ∧ l.length ≤ i + g ∧ s43 = .int .i64 (i : Int) ∧ s13 = .int .i64 (E : Int) ∧ s11 = .slice a' N c' ∧ (count < 1 ∨ (0 < count ∧ (N : Int) < count)) ∧ Hid (E = r - 1 - (hits l v false i).length ∧ N = ((hits l v false i).drop (r - 1)).length ∧ DqBase.NR w.heap.size wx (.slice a' N c') (ints ((hits l v false i).drop (r - 1))) ∧ Below w.heap.size w wx))
    case atStart =>
      refine ⟨0, r - 1, none, 0, 0, by omega, by omega, rfl, ?_, rfl, by omega, ?_⟩
      · rw [HQ.out, HR2.out]; congr 1; omega
      · exact ⟨by simp [hits_zero], by simp [hits_zero], .inl ⟨rfl, by simp [hits_zero, ints]⟩, bel_drewN w m1⟩
    case round =>
      obtain ⟨i, E, a', N, c', hi, hg, rfl, rfl, rfl, hcs, R0⟩ := hrel
      by_cases hlt : i < l.length
      · obtain ⟨g', rfl⟩ : ∃ g', gk = g' + 1 := ⟨gk - 1, by omega⟩
        have hil : i < l.length := by omega
        obtain ⟨p, HP⟩ : ∃ p, Hid (p = way l.length false i) := ⟨_, hid_of rfl⟩
        have hp : p < l.length := by rw [HP.out]; exact way_lt _ hil
        have HPP := hid_of (show p = i by rw [HP.out]; rfl)
        obtain rfl : i = p := HPP.out.symm
        have HPW := hid_of (show way l.length false i = i from HP.out.symm)
        obtain ⟨e1, e2, nr, bl⟩ := R0.out
        obtain ⟨g0, o0, rfl, _, hc0⟩ : ∃ g o, ha = some ⟨g, o, none⟩ ∧ F g ∧ ∀ j x, l[j]? = some x → wr.cell? ⟨g, o + j, none⟩ = some (V x) := by
          rcases HR.out.keep (w' := wr) (fun k hk _ => bl.block k hk) with e | q
          · rw [e] at hp; simp at hp
          · exact q
        have cx := hc0 i _ (List.getElem?_eq_getElem hp)
        have HN := hid_of (And.intro e1 (And.intro e2 (And.intro nr bl)))
        have hNl : N ≤ i := by rw [e2, List.length_drop]; have := hits_len l v false i; omega
        have hEb : E ≤ 9223372036854775807 := by rw [e1]; omega
        have bE : (E : Int) ≤ 9223372036854775807 := by omega
        clear R0 e1 e2 nr bl hc0
        by_cases hv : l[i] = v
        · rw [hv] at cx
          have HH2 := hid_of (hit (l := l) (v := v) (back := false) (k := i) (by rw [HPW.out, List.getElem?_eq_getElem hp, hv]))
          rw [HPW.out] at HH2
          by_cases hE : 0 < E
          · have gE : (0 : Int) < (E : Int) := by omega
            have HX := hid_of (show E - 1 = r - 1 - (hits l v false (i + 1)).length ∧ N = ((hits l v false (i + 1)).drop (r - 1)).length ∧ (hits l v false (i + 1)).drop (r - 1) = (hits l v false i).drop (r - 1) by
              obtain ⟨e1, e2, _⟩ := HN.out
              have z1 : (hits l v false i).drop (r - 1) = [] := List.drop_eq_nil_of_le (by omega)
              have z2 : (hits l v false (i + 1)).drop (r - 1) = [] := List.drop_eq_nil_of_le (by rw [HH2.out]; simp; omega)
              refine ⟨by rw [HH2.out]; simp; omega, ?_, by rw [z1, z2]⟩
              rw [e2, z1, z2])
            clear HH2 hv
            rcases hcs with q1 | ⟨q1, q2⟩
            · have q3 : ¬ 0 < count := by omega
              go_wp2_with fail
              go_roundg g'
              case measure => omega
              case rel => exact ⟨i + 1, E - 1, a', N, c', by omega, by omega, by simp, by congr 1; omega, rfl, .inl q1, ⟨HX.out.1, HX.out.2.1, by rw [HX.out.2.2]; exact HN.out.2.2.1, HN.out.2.2.2⟩⟩
            · have q3 : ((N : Int) == count) = false := by rw [beq_eq_false_iff_ne]; omega
              go_wp2_with fail
              go_roundg g'
              case measure => omega
              case rel => exact ⟨i + 1, E - 1, a', N, c', by omega, by omega, by simp, by congr 1; omega, rfl, .inr ⟨q1, q2⟩, ⟨HX.out.1, HX.out.2.1, by rw [HX.out.2.2]; exact HN.out.2.2.1, HN.out.2.2.2⟩⟩
          · obtain rfl : E = 0 := by omega
            have gE : ¬ (0 : Int) < ((0 : Nat) : Int) := by omega
            have HX := hid_of (show 0 = r - 1 - (hits l v false (i + 1)).length ∧ (hits l v false (i + 1)).drop (r - 1) = (hits l v false i).drop (r - 1) ++ [i] by
              obtain ⟨e1, e2, _⟩ := HN.out
              refine ⟨by rw [HH2.out]; simp; omega, ?_⟩
              rw [HH2.out, List.drop_append_of_le_length (by omega)])
            obtain ⟨v2, w2, hrun, hn2, hb2⟩ := DqApp.app_one (i : Int) HN.out.2.2.1 (by rw [ints_len, ← HN.out.2.1]; omega) HN.out.2.2.2.size 127
            obtain ⟨a2, c2, rfl, hc2⟩ : ∃ a2 c2, v2 = .slice a2 (N + 1) c2 ∧ N + 1 ≤ c2 := by
              obtain ⟨a2, c2, e, h2, _⟩ := DqFree.NR.shape hn2
              rw [List.length_append, ints_len, ← HN.out.2.1] at e h2
              exact ⟨a2, c2, e, h2⟩
            have HY := hid_of (And.intro (show DqBase.NR w.heap.size w2 (.slice a2 (N + 1) c2) (ints ((hits l v false (i + 1)).drop (r - 1))) by rw [HX.out.2]; simpa [ints] using hn2) (And.intro (HN.out.2.2.2.trans hb2) (show N + 1 = ((hits l v false (i + 1)).drop (r - 1)).length by rw [HX.out.2, List.length_append, ← HN.out.2.1]; rfl)))
            clear hn2 hb2 HH2 hv hc2
            rcases hcs with q1 | ⟨q1, q2⟩
            · have q3 : ¬ 0 < count := by omega
              go_wp2_with (at_builtin; refine wpl_eq rfl _ _ 127 127 rfl (.slice a' N c') (.slice (some ⟨wr.heap.size, 0, none⟩) 1 1) (.slice a2 (N + 1) c2) _ w2 rfl rfl hrun ?_)
              go_roundg g'
              case measure => omega
              case rel => exact ⟨i + 1, 0, a2, N + 1, c2, by omega, by omega, by simp, rfl, rfl, .inl q1, ⟨HX.out.1, HY.out.2.2, HY.out.1, HY.out.2.1⟩⟩
            · by_cases q4 : (N : Int) + 1 = count
              · have q3 : (((N : Int) + 1) == count) = true := by rw [beq_iff_eq]; exact q4
                have HZ := hid_of (show (hits l v false (i + 1)).drop (r - 1) = findN l v r false count (l.length) from full_find (by omega) q1 (by rw [← HY.out.2.2]; omega))
                have HQ4 := hid_of q4
                clear q4
                go_wp2_with (at_builtin; refine wpl_eq rfl _ _ 127 127 rfl (.slice a' N c') (.slice (some ⟨wr.heap.size, 0, none⟩) 1 1) (.slice a2 (N + 1) c2) _ w2 rfl rfl hrun ?_)
                go_ret
                exact ⟨_, rfl, by rw [← HZ.out]; exact HY.out.1, HY.out.2.1⟩
              · have q3 : (((N : Int) + 1) == count) = false := by rw [beq_eq_false_iff_ne]; exact q4
                go_wp2_with (at_builtin; refine wpl_eq rfl _ _ 127 127 rfl (.slice a' N c') (.slice (some ⟨wr.heap.size, 0, none⟩) 1 1) (.slice a2 (N + 1) c2) _ w2 rfl rfl hrun ?_)
                go_roundg g'
                case measure => omega
                case rel => exact ⟨i + 1, 0, a2, N + 1, c2, by omega, by omega, by simp, rfl, rfl, .inr ⟨q1, by omega⟩, ⟨HX.out.1, HY.out.2.2, HY.out.1, HY.out.2.1⟩⟩
        · have HH2 := hid_of (no_hit (l := l) (v := v) (back := false) (k := i) (by rw [HPW.out, List.getElem?_eq_getElem hp]; exact fun e => hv (Option.some.inj e)))
          have hvv : (l[i].toList == v.toList) = false := bts_ne hv
          have HX := hid_of (show E = r - 1 - (hits l v false (i + 1)).length ∧ N = ((hits l v false (i + 1)).drop (r - 1)).length ∧ (hits l v false (i + 1)).drop (r - 1) = (hits l v false i).drop (r - 1) by
            obtain ⟨e1, e2, _⟩ := HN.out
            rw [HH2.out]; exact ⟨e1, e2, rfl⟩)
          generalize l[i] = x at *
          clear HH2 hv
          rcases hcs with q1 | ⟨q1, q2⟩
          · have q3 : ¬ 0 < count := by omega
            go_wp2_with fail
            go_roundg g'
            case measure => omega
            case rel => exact ⟨i + 1, E, a', N, c', by omega, by omega, by simp, rfl, rfl, .inl q1, ⟨HX.out.1, HX.out.2.1, by rw [HX.out.2.2]; exact HN.out.2.2.1, HN.out.2.2.2⟩⟩
          · have q3 : ((N : Int) == count) = false := by rw [beq_eq_false_iff_ne]; omega
            go_wp2_with fail
            go_roundg g'
            case measure => omega
            case rel => exact ⟨i + 1, E, a', N, c', by omega, by omega, by simp, rfl, rfl, .inr ⟨q1, q2⟩, ⟨HX.out.1, HX.out.2.1, by rw [HX.out.2.2]; exact HN.out.2.2.1, HN.out.2.2.2⟩⟩
      · have hiM : i = l.length := by omega
        subst hiM
        have HZ := hid_of (show (hits l v false (l.length)).drop (r - 1) = findN l v r false count (l.length) from less_find (by rw [← R0.out.2.1]; omega))
        have HN := hid_of R0.out
        clear R0
        go_wp2_with fail
        go_ret
        exact ⟨_, rfl, by rw [← HZ.out]; exact HN.out.2.2.1, HN.out.2.2.2⟩
end Go.Proofs.YtpibeabokedpdaaGreatDoor.DqSFind
end
