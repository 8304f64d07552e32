/- Find from the end. -/
import Derived.Test.YtdmjfmojacnbeaaFind
import Derived.Test.YtdmjfmojacnbeaaApp
import Derived.Test.YtdmjfmojacnbeaaSelf
import Derived.Test.YtdmjfmojacnbeaaFindMath
namespace Go.Proofs.Ytdmjfmojacnbeaa.FindB
open Go.RowKit
open Go.Proofs.Ytdmjfmojacnbeaa.Base
open Go.Proofs.Ytdmjfmojacnbeaa.Held
open Go.Proofs.Ytdmjfmojacnbeaa.Lay
open Go.Proofs.Ytdmjfmojacnbeaa.Free
open Go.Proofs.Ytdmjfmojacnbeaa.Push
open Go.Proofs.Ytdmjfmojacnbeaa.Keep
open Go.Proofs.Ytdmjfmojacnbeaa.Pop
open Go.Proofs.Ytdmjfmojacnbeaa.Place
open Go.Proofs.Ytdmjfmojacnbeaa.App
open Go.Proofs.Ytdmjfmojacnbeaa.Self
open Go.Proofs.Ytdmjfmojacnbeaa.FindMath
open Go.Proofs.Ytdmjfmojacnbeaa.Find
set_option linter.unusedVariables false
set_option linter.unusedSimpArgs false
set_option maxHeartbeats 8000000 in
set_option maxRecDepth 100000 in
theorem find_neg {F : Nat → Prop} {b : Nat} {l : List El} {w : World} (h : DQ F b l w) (v : El) (r : Nat) (count most : Int) (hr : 0 < r) (hr2 : r ≤ 9223372036854775807) (hb : l.length * 8 ≤ 140737488355328) :
    Calls Try.prog 43 #[ptr b, V v, .int .i64 (-(r : Int)), .int .i64 count, .int .i64 most] w fun e w' => ∃ v', e = .returned v' ∧ Base.NR w.heap.size w' v' (ints (findN l v r true count (looked l.length most))) ∧ Below w.heap.size w w' := by
  have HS := hid_of (fun W => self_call v W)
  obtain ⟨M, HM⟩ : ∃ M, Hid (M = looked l.length most) := ⟨_, hid_of rfl⟩
  rw [← HM.out]
  have hM : M ≤ l.length := by rw [HM.out]; exact looked_le _ _
  have hcase : (most < 1 ∧ M = l.length) ∨ (1 ≤ most ∧ most ≤ l.length ∧ (M : Int) = most) ∨ (1 ≤ most ∧ (l.length : Int) < most ∧ M = l.length) := by
    rw [HM.out]; unfold looked
    split
    · exact .inl ⟨by omega, rfl⟩
    · split
      · exact .inr (.inl ⟨by omega, by omega, by omega⟩)
      · exact .inr (.inr ⟨by omega, by omega, rfl⟩)
  obtain ⟨a, n, c, f, xs, h⟩ := h
  have HH0 := hid_of (held_call h)
  have HR := hid_of h.rd
  have hl : l.length ≤ 35184372088832 := by have := h.fit; have := h.lim; omega
  generalize ca a c f = ha at *
  generalize c - f = hc at *
  clear h HM
  obtain ⟨R, HR2⟩ : ∃ R : Int, Hid (R = (r : Int)) := ⟨_, hid_of rfl⟩
  have r0 : 0 < R := by rw [HR2.out]; omega
  have r1 : R ≤ 9223372036854775807 := by rw [HR2.out]; omega
  obtain ⟨S, HS2⟩ : ∃ S : Int, Hid (S = -R) := ⟨_, hid_of rfl⟩
  rw [← HR2.out, ← HS2.out]
  have s0 : S < 0 := by rw [HS2.out]; omega
  have s1 : -S = R := by rw [HS2.out]; omega
  have n1 : (S == 0) = false := by rw [beq_eq_false_iff_ne]; omega
  have n2 : (S == -9223372036854775808) = false := by rw [beq_eq_false_iff_ne]; omega
  have n3 : IntKind.i64.wrap R = R := IntWalk.i64_in _ (by omega)
  have n4 : S < R := by omega
  obtain ⟨Q, HQ⟩ : ∃ Q : Int, Hid (Q = R - 1) := ⟨_, hid_of rfl⟩
  have n5 : R - 1 = Q := HQ.out.symm
  have n7 : IntKind.i64.wrap Q = Q := IntWalk.i64_in _ (by omega)
  rcases hcase with ⟨k1, k2⟩ | ⟨k1, k2, k3⟩ | ⟨k1, k2, k3⟩
  · subst k2
    go_enter Try.func43, Try.ntmps43
    go_wp2_with fail
    refine (HS.out _).mono ?_
    rintro e w1 ⟨rfl, hw1⟩
    rw [hw1]
    clear hw1
    go_wp2_with fail
    refine HH0.out.mono ?_
    rintro e w1 ⟨rfl, m1, rfl⟩
    go_wp2_with fail
    go_loopg [43, 13, 11] (l.length) (fun g s43 s13 s11 wx => ∃ (i : Nat) (E : Nat) (a' : Option Addr) (N c' : Nat), i ≤ l.length ∧ l.length ≤ i + g ∧ s43 = .int .i64 (i : Int) ∧ s13 = .int .i64 (E : Int) ∧ s11 = .slice a' N c' ∧ (count < 1 ∨ (0 < count ∧ (N : Int) < count)) ∧ Hid (E = r - 1 - (hits l v true i).length ∧ N = ((hits l v true i).drop (r - 1)).length ∧ Base.NR w.heap.size wx (.slice a' N c') (ints ((hits l v true i).drop (r - 1))) ∧ Below w.heap.size w wx))
    case atStart =>
      refine ⟨0, r - 1, none, 0, 0, by omega, by omega, rfl, ?_, rfl, by omega, ?_⟩
      · rw [HQ.out, HR2.out]; congr 1; omega
      · exact ⟨by simp [hits_zero], by simp [hits_zero], .inl ⟨rfl, by simp [hits_zero, ints]⟩, bel_drewN w m1⟩
    case round =>
      obtain ⟨i, E, a', N, c', hi, hg, rfl, rfl, rfl, hcs, R0⟩ := hrel
      by_cases hlt : i < l.length
      · obtain ⟨g', rfl⟩ : ∃ g', gk = g' + 1 := ⟨gk - 1, by omega⟩
        have hil : i < l.length := by omega
        obtain ⟨p, HP⟩ : ∃ p, Hid (p = way l.length true i) := ⟨_, hid_of rfl⟩
        have hp : p < l.length := by rw [HP.out]; exact way_lt _ hil
        have HPP := hid_of (show p = l.length - 1 - i by rw [HP.out]; rfl)
        have pI : (l.length : Int) - 1 - (i : Int) = (p : Int) := by have := HPP.out; omega
        have pW : IntKind.i64.wrap ((l.length : Int) - 1 - (i : Int)) = (l.length : Int) - 1 - (i : Int) := IntWalk.i64_in _ (by omega)
        have HPW := hid_of (show way l.length true i = p from HP.out.symm)
        obtain ⟨e1, e2, nr, bl⟩ := R0.out
        obtain ⟨g0, o0, rfl, _, hc0⟩ : ∃ g o, ha = some ⟨g, o, none⟩ ∧ F g ∧ ∀ j x, l[j]? = some x → wr.cell? ⟨g, o + j, none⟩ = some (V x) := by
          rcases HR.out.keep (w' := wr) (fun k hk _ => bl.block k hk) with e | q
          · rw [e] at hp; simp at hp
          · exact q
        have cx := hc0 p _ (List.getElem?_eq_getElem hp)
        have HN := hid_of (And.intro e1 (And.intro e2 (And.intro nr bl)))
        have hNl : N ≤ i := by rw [e2, List.length_drop]; have := hits_len l v true i; omega
        have hEb : E ≤ 9223372036854775807 := by rw [e1]; omega
        have bE : (E : Int) ≤ 9223372036854775807 := by omega
        clear R0 e1 e2 nr bl hc0
        by_cases hv : l[p] = v
        · rw [hv] at cx
          have HH2 := hid_of (hit (l := l) (v := v) (back := true) (k := i) (by rw [HPW.out, List.getElem?_eq_getElem hp, hv]))
          rw [HPW.out] at HH2
          by_cases hE : 0 < E
          · have gE : (0 : Int) < (E : Int) := by omega
            have HX := hid_of (show E - 1 = r - 1 - (hits l v true (i + 1)).length ∧ N = ((hits l v true (i + 1)).drop (r - 1)).length ∧ (hits l v true (i + 1)).drop (r - 1) = (hits l v true i).drop (r - 1) by
              obtain ⟨e1, e2, _⟩ := HN.out
              have z1 : (hits l v true i).drop (r - 1) = [] := List.drop_eq_nil_of_le (by omega)
              have z2 : (hits l v true (i + 1)).drop (r - 1) = [] := List.drop_eq_nil_of_le (by rw [HH2.out]; simp; omega)
              refine ⟨by rw [HH2.out]; simp; omega, ?_, by rw [z1, z2]⟩
              rw [e2, z1, z2])
            clear HH2 hv
            rcases hcs with q1 | ⟨q1, q2⟩
            · have q3 : ¬ 0 < count := by omega
              go_wp2_with fail
              go_roundg g'
              case measure => omega
              case rel => exact ⟨i + 1, E - 1, a', N, c', by omega, by omega, by simp, by congr 1; omega, rfl, .inl q1, ⟨HX.out.1, HX.out.2.1, by rw [HX.out.2.2]; exact HN.out.2.2.1, HN.out.2.2.2⟩⟩
            · have q3 : ((N : Int) == count) = false := by rw [beq_eq_false_iff_ne]; omega
              go_wp2_with fail
              go_roundg g'
              case measure => omega
              case rel => exact ⟨i + 1, E - 1, a', N, c', by omega, by omega, by simp, by congr 1; omega, rfl, .inr ⟨q1, q2⟩, ⟨HX.out.1, HX.out.2.1, by rw [HX.out.2.2]; exact HN.out.2.2.1, HN.out.2.2.2⟩⟩
          · obtain rfl : E = 0 := by omega
            have gE : ¬ (0 : Int) < ((0 : Nat) : Int) := by omega
            have HX := hid_of (show 0 = r - 1 - (hits l v true (i + 1)).length ∧ (hits l v true (i + 1)).drop (r - 1) = (hits l v true i).drop (r - 1) ++ [p] by
              obtain ⟨e1, e2, _⟩ := HN.out
              refine ⟨by rw [HH2.out]; simp; omega, ?_⟩
              rw [HH2.out, List.drop_append_of_le_length (by omega)])
            obtain ⟨v2, w2, hrun, hn2, hb2⟩ := App.app_one (p : Int) HN.out.2.2.1 (by rw [ints_len, ← HN.out.2.1]; omega) HN.out.2.2.2.size 22
            obtain ⟨a2, c2, rfl, hc2⟩ : ∃ a2 c2, v2 = .slice a2 (N + 1) c2 ∧ N + 1 ≤ c2 := by
              obtain ⟨a2, c2, e, h2, _⟩ := Free.NR.shape hn2
              rw [List.length_append, ints_len, ← HN.out.2.1] at e h2
              exact ⟨a2, c2, e, h2⟩
            have HY := hid_of (And.intro (show Base.NR w.heap.size w2 (.slice a2 (N + 1) c2) (ints ((hits l v true (i + 1)).drop (r - 1))) by rw [HX.out.2]; simpa [ints] using hn2) (And.intro (HN.out.2.2.2.trans hb2) (show N + 1 = ((hits l v true (i + 1)).drop (r - 1)).length by rw [HX.out.2, List.length_append, ← HN.out.2.1]; rfl)))
            clear hn2 hb2 HH2 hv hc2
            rcases hcs with q1 | ⟨q1, q2⟩
            · have q3 : ¬ 0 < count := by omega
              go_wp2_with (at_builtin; refine wpl_eq rfl _ _ 22 22 rfl (.slice a' N c') (.slice (some ⟨wr.heap.size, 0, none⟩) 1 1) (.slice a2 (N + 1) c2) _ w2 rfl rfl hrun ?_)
              go_roundg g'
              case measure => omega
              case rel => exact ⟨i + 1, 0, a2, N + 1, c2, by omega, by omega, by simp, rfl, rfl, .inl q1, ⟨HX.out.1, HY.out.2.2, HY.out.1, HY.out.2.1⟩⟩
            · by_cases q4 : (N : Int) + 1 = count
              · have q3 : (((N : Int) + 1) == count) = true := by rw [beq_iff_eq]; exact q4
                have HZ := hid_of (show (hits l v true (i + 1)).drop (r - 1) = findN l v r true count (l.length) from full_find (by omega) q1 (by rw [← HY.out.2.2]; omega))
                have HQ4 := hid_of q4
                clear q4
                go_wp2_with (at_builtin; refine wpl_eq rfl _ _ 22 22 rfl (.slice a' N c') (.slice (some ⟨wr.heap.size, 0, none⟩) 1 1) (.slice a2 (N + 1) c2) _ w2 rfl rfl hrun ?_)
                go_ret
                exact ⟨_, rfl, by rw [← HZ.out]; exact HY.out.1, HY.out.2.1⟩
              · have q3 : (((N : Int) + 1) == count) = false := by rw [beq_eq_false_iff_ne]; exact q4
                go_wp2_with (at_builtin; refine wpl_eq rfl _ _ 22 22 rfl (.slice a' N c') (.slice (some ⟨wr.heap.size, 0, none⟩) 1 1) (.slice a2 (N + 1) c2) _ w2 rfl rfl hrun ?_)
                go_roundg g'
                case measure => omega
                case rel => exact ⟨i + 1, 0, a2, N + 1, c2, by omega, by omega, by simp, rfl, rfl, .inr ⟨q1, by omega⟩, ⟨HX.out.1, HY.out.2.2, HY.out.1, HY.out.2.1⟩⟩
        · have HH2 := hid_of (no_hit (l := l) (v := v) (back := true) (k := i) (by rw [HPW.out, List.getElem?_eq_getElem hp]; exact fun e => hv (Option.some.inj e)))
          have hvv : (l[p] != v) = true := by rw [bne_iff_ne]; exact hv
          have HX := hid_of (show E = r - 1 - (hits l v true (i + 1)).length ∧ N = ((hits l v true (i + 1)).drop (r - 1)).length ∧ (hits l v true (i + 1)).drop (r - 1) = (hits l v true i).drop (r - 1) by
            obtain ⟨e1, e2, _⟩ := HN.out
            rw [HH2.out]; exact ⟨e1, e2, rfl⟩)
          generalize l[p] = x at *
          clear HH2 hv
          rcases hcs with q1 | ⟨q1, q2⟩
          · have q3 : ¬ 0 < count := by omega
            go_wp2_with fail
            go_roundg g'
            case measure => omega
            case rel => exact ⟨i + 1, E, a', N, c', by omega, by omega, by simp, rfl, rfl, .inl q1, ⟨HX.out.1, HX.out.2.1, by rw [HX.out.2.2]; exact HN.out.2.2.1, HN.out.2.2.2⟩⟩
          · have q3 : ((N : Int) == count) = false := by rw [beq_eq_false_iff_ne]; omega
            go_wp2_with fail
            go_roundg g'
            case measure => omega
            case rel => exact ⟨i + 1, E, a', N, c', by omega, by omega, by simp, rfl, rfl, .inr ⟨q1, q2⟩, ⟨HX.out.1, HX.out.2.1, by rw [HX.out.2.2]; exact HN.out.2.2.1, HN.out.2.2.2⟩⟩
      · have hiM : i = l.length := by omega
        subst hiM
        have HZ := hid_of (show (hits l v true (l.length)).drop (r - 1) = findN l v r true count (l.length) from less_find (by rw [← R0.out.2.1]; omega))
        have HN := hid_of R0.out
        clear R0
        go_wp2_with fail
        go_ret
        exact ⟨_, rfl, by rw [← HZ.out]; exact HN.out.2.2.1, HN.out.2.2.2⟩

  · subst k3
    have k4 : ¬ (M : Int) < 1 := by omega
    have k5 : ¬ (l.length : Int) < (M : Int) := by omega
    go_enter Try.func43, Try.ntmps43
    go_wp2_with fail
    refine (HS.out _).mono ?_
    rintro e w1 ⟨rfl, hw1⟩
    rw [hw1]
    clear hw1
    go_wp2_with fail
    refine HH0.out.mono ?_
    rintro e w1 ⟨rfl, m1, rfl⟩
    go_wp2_with fail
    go_loopg [43, 13, 11] (M) (fun g s43 s13 s11 wx => ∃ (i : Nat) (E : Nat) (a' : Option Addr) (N c' : Nat), i ≤ M ∧ M ≤ i + g ∧ s43 = .int .i64 (i : Int) ∧ s13 = .int .i64 (E : Int) ∧ s11 = .slice a' N c' ∧ (count < 1 ∨ (0 < count ∧ (N : Int) < count)) ∧ Hid (E = r - 1 - (hits l v true i).length ∧ N = ((hits l v true i).drop (r - 1)).length ∧ Base.NR w.heap.size wx (.slice a' N c') (ints ((hits l v true i).drop (r - 1))) ∧ Below w.heap.size w wx))
    case atStart =>
      refine ⟨0, r - 1, none, 0, 0, by omega, by omega, rfl, ?_, rfl, by omega, ?_⟩
      · rw [HQ.out, HR2.out]; congr 1; omega
      · exact ⟨by simp [hits_zero], by simp [hits_zero], .inl ⟨rfl, by simp [hits_zero, ints]⟩, bel_drewN w m1⟩
    case round =>
      obtain ⟨i, E, a', N, c', hi, hg, rfl, rfl, rfl, hcs, R0⟩ := hrel
      by_cases hlt : i < M
      · obtain ⟨g', rfl⟩ : ∃ g', gk = g' + 1 := ⟨gk - 1, by omega⟩
        have hil : i < l.length := by omega
        obtain ⟨p, HP⟩ : ∃ p, Hid (p = way l.length true i) := ⟨_, hid_of rfl⟩
        have hp : p < l.length := by rw [HP.out]; exact way_lt _ hil
        have HPP := hid_of (show p = l.length - 1 - i by rw [HP.out]; rfl)
        have pI : (l.length : Int) - 1 - (i : Int) = (p : Int) := by have := HPP.out; omega
        have pW : IntKind.i64.wrap ((l.length : Int) - 1 - (i : Int)) = (l.length : Int) - 1 - (i : Int) := IntWalk.i64_in _ (by omega)
        have HPW := hid_of (show way l.length true i = p from HP.out.symm)
        obtain ⟨e1, e2, nr, bl⟩ := R0.out
        obtain ⟨g0, o0, rfl, _, hc0⟩ : ∃ g o, ha = some ⟨g, o, none⟩ ∧ F g ∧ ∀ j x, l[j]? = some x → wr.cell? ⟨g, o + j, none⟩ = some (V x) := by
          rcases HR.out.keep (w' := wr) (fun k hk _ => bl.block k hk) with e | q
          · rw [e] at hp; simp at hp
          · exact q
        have cx := hc0 p _ (List.getElem?_eq_getElem hp)
        have HN := hid_of (And.intro e1 (And.intro e2 (And.intro nr bl)))
        have hNl : N ≤ i := by rw [e2, List.length_drop]; have := hits_len l v true i; omega
        have hEb : E ≤ 9223372036854775807 := by rw [e1]; omega
        have bE : (E : Int) ≤ 9223372036854775807 := by omega
        clear R0 e1 e2 nr bl hc0
        by_cases hv : l[p] = v
        · rw [hv] at cx
          have HH2 := hid_of (hit (l := l) (v := v) (back := true) (k := i) (by rw [HPW.out, List.getElem?_eq_getElem hp, hv]))
          rw [HPW.out] at HH2
          by_cases hE : 0 < E
          · have gE : (0 : Int) < (E : Int) := by omega
            have HX := hid_of (show E - 1 = r - 1 - (hits l v true (i + 1)).length ∧ N = ((hits l v true (i + 1)).drop (r - 1)).length ∧ (hits l v true (i + 1)).drop (r - 1) = (hits l v true i).drop (r - 1) by
              obtain ⟨e1, e2, _⟩ := HN.out
              have z1 : (hits l v true i).drop (r - 1) = [] := List.drop_eq_nil_of_le (by omega)
              have z2 : (hits l v true (i + 1)).drop (r - 1) = [] := List.drop_eq_nil_of_le (by rw [HH2.out]; simp; omega)
              refine ⟨by rw [HH2.out]; simp; omega, ?_, by rw [z1, z2]⟩
              rw [e2, z1, z2])
            clear HH2 hv
            rcases hcs with q1 | ⟨q1, q2⟩
            · have q3 : ¬ 0 < count := by omega
              go_wp2_with fail
              go_roundg g'
              case measure => omega
              case rel => exact ⟨i + 1, E - 1, a', N, c', by omega, by omega, by simp, by congr 1; omega, rfl, .inl q1, ⟨HX.out.1, HX.out.2.1, by rw [HX.out.2.2]; exact HN.out.2.2.1, HN.out.2.2.2⟩⟩
            · have q3 : ((N : Int) == count) = false := by rw [beq_eq_false_iff_ne]; omega
              go_wp2_with fail
              go_roundg g'
              case measure => omega
              case rel => exact ⟨i + 1, E - 1, a', N, c', by omega, by omega, by simp, by congr 1; omega, rfl, .inr ⟨q1, q2⟩, ⟨HX.out.1, HX.out.2.1, by rw [HX.out.2.2]; exact HN.out.2.2.1, HN.out.2.2.2⟩⟩
          · obtain rfl : E = 0 := by omega
            have gE : ¬ (0 : Int) < ((0 : Nat) : Int) := by omega
            have HX := hid_of (show 0 = r - 1 - (hits l v true (i + 1)).length ∧ (hits l v true (i + 1)).drop (r - 1) = (hits l v true i).drop (r - 1) ++ [p] by
              obtain ⟨e1, e2, _⟩ := HN.out
              refine ⟨by rw [HH2.out]; simp; omega, ?_⟩
              rw [HH2.out, List.drop_append_of_le_length (by omega)])
            obtain ⟨v2, w2, hrun, hn2, hb2⟩ := App.app_one (p : Int) HN.out.2.2.1 (by rw [ints_len, ← HN.out.2.1]; omega) HN.out.2.2.2.size 22
            obtain ⟨a2, c2, rfl, hc2⟩ : ∃ a2 c2, v2 = .slice a2 (N + 1) c2 ∧ N + 1 ≤ c2 := by
              obtain ⟨a2, c2, e, h2, _⟩ := Free.NR.shape hn2
              rw [List.length_append, ints_len, ← HN.out.2.1] at e h2
              exact ⟨a2, c2, e, h2⟩
            have HY := hid_of (And.intro (show Base.NR w.heap.size w2 (.slice a2 (N + 1) c2) (ints ((hits l v true (i + 1)).drop (r - 1))) by rw [HX.out.2]; simpa [ints] using hn2) (And.intro (HN.out.2.2.2.trans hb2) (show N + 1 = ((hits l v true (i + 1)).drop (r - 1)).length by rw [HX.out.2, List.length_append, ← HN.out.2.1]; rfl)))
            clear hn2 hb2 HH2 hv hc2
            rcases hcs with q1 | ⟨q1, q2⟩
            · have q3 : ¬ 0 < count := by omega
              go_wp2_with (at_builtin; refine wpl_eq rfl _ _ 22 22 rfl (.slice a' N c') (.slice (some ⟨wr.heap.size, 0, none⟩) 1 1) (.slice a2 (N + 1) c2) _ w2 rfl rfl hrun ?_)
              go_roundg g'
              case measure => omega
              case rel => exact ⟨i + 1, 0, a2, N + 1, c2, by omega, by omega, by simp, rfl, rfl, .inl q1, ⟨HX.out.1, HY.out.2.2, HY.out.1, HY.out.2.1⟩⟩
            · by_cases q4 : (N : Int) + 1 = count
              · have q3 : (((N : Int) + 1) == count) = true := by rw [beq_iff_eq]; exact q4
                have HZ := hid_of (show (hits l v true (i + 1)).drop (r - 1) = findN l v r true count (M) from full_find (by omega) q1 (by rw [← HY.out.2.2]; omega))
                have HQ4 := hid_of q4
                clear q4
                go_wp2_with (at_builtin; refine wpl_eq rfl _ _ 22 22 rfl (.slice a' N c') (.slice (some ⟨wr.heap.size, 0, none⟩) 1 1) (.slice a2 (N + 1) c2) _ w2 rfl rfl hrun ?_)
                go_ret
                exact ⟨_, rfl, by rw [← HZ.out]; exact HY.out.1, HY.out.2.1⟩
              · have q3 : (((N : Int) + 1) == count) = false := by rw [beq_eq_false_iff_ne]; exact q4
                go_wp2_with (at_builtin; refine wpl_eq rfl _ _ 22 22 rfl (.slice a' N c') (.slice (some ⟨wr.heap.size, 0, none⟩) 1 1) (.slice a2 (N + 1) c2) _ w2 rfl rfl hrun ?_)
                go_roundg g'
                case measure => omega
                case rel => exact ⟨i + 1, 0, a2, N + 1, c2, by omega, by omega, by simp, rfl, rfl, .inr ⟨q1, by omega⟩, ⟨HX.out.1, HY.out.2.2, HY.out.1, HY.out.2.1⟩⟩
        · have HH2 := hid_of (no_hit (l := l) (v := v) (back := true) (k := i) (by rw [HPW.out, List.getElem?_eq_getElem hp]; exact fun e => hv (Option.some.inj e)))
          have hvv : (l[p] != v) = true := by rw [bne_iff_ne]; exact hv
          have HX := hid_of (show E = r - 1 - (hits l v true (i + 1)).length ∧ N = ((hits l v true (i + 1)).drop (r - 1)).length ∧ (hits l v true (i + 1)).drop (r - 1) = (hits l v true i).drop (r - 1) by
            obtain ⟨e1, e2, _⟩ := HN.out
            rw [HH2.out]; exact ⟨e1, e2, rfl⟩)
          generalize l[p] = x at *
          clear HH2 hv
          rcases hcs with q1 | ⟨q1, q2⟩
          · have q3 : ¬ 0 < count := by omega
            go_wp2_with fail
            go_roundg g'
            case measure => omega
            case rel => exact ⟨i + 1, E, a', N, c', by omega, by omega, by simp, rfl, rfl, .inl q1, ⟨HX.out.1, HX.out.2.1, by rw [HX.out.2.2]; exact HN.out.2.2.1, HN.out.2.2.2⟩⟩
          · have q3 : ((N : Int) == count) = false := by rw [beq_eq_false_iff_ne]; omega
            go_wp2_with fail
            go_roundg g'
            case measure => omega
            case rel => exact ⟨i + 1, E, a', N, c', by omega, by omega, by simp, rfl, rfl, .inr ⟨q1, q2⟩, ⟨HX.out.1, HX.out.2.1, by rw [HX.out.2.2]; exact HN.out.2.2.1, HN.out.2.2.2⟩⟩
      · have hiM : M = i := by omega
        subst hiM
        have HZ := hid_of (show (hits l v true (M)).drop (r - 1) = findN l v r true count (M) from less_find (by rw [← R0.out.2.1]; omega))
        have HN := hid_of R0.out
        clear R0
        go_wp2_with fail
        go_ret
        exact ⟨_, rfl, by rw [← HZ.out]; exact HN.out.2.2.1, HN.out.2.2.2⟩

  · subst k3
    have k4 : ¬ most < 1 := by omega
    go_enter Try.func43, Try.ntmps43
    go_wp2_with fail
    refine (HS.out _).mono ?_
    rintro e w1 ⟨rfl, hw1⟩
    rw [hw1]
    clear hw1
    go_wp2_with fail
    refine HH0.out.mono ?_
    rintro e w1 ⟨rfl, m1, rfl⟩
    go_wp2_with fail
    go_loopg [43, 13, 11] (l.length) (fun g s43 s13 s11 wx => ∃ (i : Nat) (E : Nat) (a' : Option Addr) (N c' : Nat), i ≤ l.length ∧ l.length ≤ i + g ∧ s43 = .int .i64 (i : Int) ∧ s13 = .int .i64 (E : Int) ∧ s11 = .slice a' N c' ∧ (count < 1 ∨ (0 < count ∧ (N : Int) < count)) ∧ Hid (E = r - 1 - (hits l v true i).length ∧ N = ((hits l v true i).drop (r - 1)).length ∧ Base.NR w.heap.size wx (.slice a' N c') (ints ((hits l v true i).drop (r - 1))) ∧ Below w.heap.size w wx))
    case atStart =>
      refine ⟨0, r - 1, none, 0, 0, by omega, by omega, rfl, ?_, rfl, by omega, ?_⟩
      · rw [HQ.out, HR2.out]; congr 1; omega
      · exact ⟨by simp [hits_zero], by simp [hits_zero], .inl ⟨rfl, by simp [hits_zero, ints]⟩, bel_drewN w m1⟩
    case round =>
      obtain ⟨i, E, a', N, c', hi, hg, rfl, rfl, rfl, hcs, R0⟩ := hrel
      by_cases hlt : i < l.length
      · obtain ⟨g', rfl⟩ : ∃ g', gk = g' + 1 := ⟨gk - 1, by omega⟩
        have hil : i < l.length := by omega
        obtain ⟨p, HP⟩ : ∃ p, Hid (p = way l.length true i) := ⟨_, hid_of rfl⟩
        have hp : p < l.length := by rw [HP.out]; exact way_lt _ hil
        have HPP := hid_of (show p = l.length - 1 - i by rw [HP.out]; rfl)
        have pI : (l.length : Int) - 1 - (i : Int) = (p : Int) := by have := HPP.out; omega
        have pW : IntKind.i64.wrap ((l.length : Int) - 1 - (i : Int)) = (l.length : Int) - 1 - (i : Int) := IntWalk.i64_in _ (by omega)
        have HPW := hid_of (show way l.length true i = p from HP.out.symm)
        obtain ⟨e1, e2, nr, bl⟩ := R0.out
        obtain ⟨g0, o0, rfl, _, hc0⟩ : ∃ g o, ha = some ⟨g, o, none⟩ ∧ F g ∧ ∀ j x, l[j]? = some x → wr.cell? ⟨g, o + j, none⟩ = some (V x) := by
          rcases HR.out.keep (w' := wr) (fun k hk _ => bl.block k hk) with e | q
          · rw [e] at hp; simp at hp
          · exact q
        have cx := hc0 p _ (List.getElem?_eq_getElem hp)
        have HN := hid_of (And.intro e1 (And.intro e2 (And.intro nr bl)))
        have hNl : N ≤ i := by rw [e2, List.length_drop]; have := hits_len l v true i; omega
        have hEb : E ≤ 9223372036854775807 := by rw [e1]; omega
        have bE : (E : Int) ≤ 9223372036854775807 := by omega
        clear R0 e1 e2 nr bl hc0
        by_cases hv : l[p] = v
        · rw [hv] at cx
          have HH2 := hid_of (hit (l := l) (v := v) (back := true) (k := i) (by rw [HPW.out, List.getElem?_eq_getElem hp, hv]))
          rw [HPW.out] at HH2
          by_cases hE : 0 < E
          · have gE : (0 : Int) < (E : Int) := by omega
            have HX := hid_of (show E - 1 = r - 1 - (hits l v true (i + 1)).length ∧ N = ((hits l v true (i + 1)).drop (r - 1)).length ∧ (hits l v true (i + 1)).drop (r - 1) = (hits l v true i).drop (r - 1) by
              obtain ⟨e1, e2, _⟩ := HN.out
              have z1 : (hits l v true i).drop (r - 1) = [] := List.drop_eq_nil_of_le (by omega)
              have z2 : (hits l v true (i + 1)).drop (r - 1) = [] := List.drop_eq_nil_of_le (by rw [HH2.out]; simp; omega)
              refine ⟨by rw [HH2.out]; simp; omega, ?_, by rw [z1, z2]⟩
              rw [e2, z1, z2])
            clear HH2 hv
            rcases hcs with q1 | ⟨q1, q2⟩
            · have q3 : ¬ 0 < count := by omega
              go_wp2_with fail
              go_roundg g'
              case measure => omega
              case rel => exact ⟨i + 1, E - 1, a', N, c', by omega, by omega, by simp, by congr 1; omega, rfl, .inl q1, ⟨HX.out.1, HX.out.2.1, by rw [HX.out.2.2]; exact HN.out.2.2.1, HN.out.2.2.2⟩⟩
            · have q3 : ((N : Int) == count) = false := by rw [beq_eq_false_iff_ne]; omega
              go_wp2_with fail
              go_roundg g'
              case measure => omega
              case rel => exact ⟨i + 1, E - 1, a', N, c', by omega, by omega, by simp, by congr 1; omega, rfl, .inr ⟨q1, q2⟩, ⟨HX.out.1, HX.out.2.1, by rw [HX.out.2.2]; exact HN.out.2.2.1, HN.out.2.2.2⟩⟩
          · obtain rfl : E = 0 := by omega
            have gE : ¬ (0 : Int) < ((0 : Nat) : Int) := by omega
            have HX := hid_of (show 0 = r - 1 - (hits l v true (i + 1)).length ∧ (hits l v true (i + 1)).drop (r - 1) = (hits l v true i).drop (r - 1) ++ [p] by
              obtain ⟨e1, e2, _⟩ := HN.out
              refine ⟨by rw [HH2.out]; simp; omega, ?_⟩
              rw [HH2.out, List.drop_append_of_le_length (by omega)])
            obtain ⟨v2, w2, hrun, hn2, hb2⟩ := App.app_one (p : Int) HN.out.2.2.1 (by rw [ints_len, ← HN.out.2.1]; omega) HN.out.2.2.2.size 22
            obtain ⟨a2, c2, rfl, hc2⟩ : ∃ a2 c2, v2 = .slice a2 (N + 1) c2 ∧ N + 1 ≤ c2 := by
              obtain ⟨a2, c2, e, h2, _⟩ := Free.NR.shape hn2
              rw [List.length_append, ints_len, ← HN.out.2.1] at e h2
              exact ⟨a2, c2, e, h2⟩
            have HY := hid_of (And.intro (show Base.NR w.heap.size w2 (.slice a2 (N + 1) c2) (ints ((hits l v true (i + 1)).drop (r - 1))) by rw [HX.out.2]; simpa [ints] using hn2) (And.intro (HN.out.2.2.2.trans hb2) (show N + 1 = ((hits l v true (i + 1)).drop (r - 1)).length by rw [HX.out.2, List.length_append, ← HN.out.2.1]; rfl)))
            clear hn2 hb2 HH2 hv hc2
            rcases hcs with q1 | ⟨q1, q2⟩
            · have q3 : ¬ 0 < count := by omega
              go_wp2_with (at_builtin; refine wpl_eq rfl _ _ 22 22 rfl (.slice a' N c') (.slice (some ⟨wr.heap.size, 0, none⟩) 1 1) (.slice a2 (N + 1) c2) _ w2 rfl rfl hrun ?_)
              go_roundg g'
              case measure => omega
              case rel => exact ⟨i + 1, 0, a2, N + 1, c2, by omega, by omega, by simp, rfl, rfl, .inl q1, ⟨HX.out.1, HY.out.2.2, HY.out.1, HY.out.2.1⟩⟩
            · by_cases q4 : (N : Int) + 1 = count
              · have q3 : (((N : Int) + 1) == count) = true := by rw [beq_iff_eq]; exact q4
                have HZ := hid_of (show (hits l v true (i + 1)).drop (r - 1) = findN l v r true count (l.length) from full_find (by omega) q1 (by rw [← HY.out.2.2]; omega))
                have HQ4 := hid_of q4
                clear q4
                go_wp2_with (at_builtin; refine wpl_eq rfl _ _ 22 22 rfl (.slice a' N c') (.slice (some ⟨wr.heap.size, 0, none⟩) 1 1) (.slice a2 (N + 1) c2) _ w2 rfl rfl hrun ?_)
                go_ret
                exact ⟨_, rfl, by rw [← HZ.out]; exact HY.out.1, HY.out.2.1⟩
              · have q3 : (((N : Int) + 1) == count) = false := by rw [beq_eq_false_iff_ne]; exact q4
                go_wp2_with (at_builtin; refine wpl_eq rfl _ _ 22 22 rfl (.slice a' N c') (.slice (some ⟨wr.heap.size, 0, none⟩) 1 1) (.slice a2 (N + 1) c2) _ w2 rfl rfl hrun ?_)
                go_roundg g'
                case measure => omega
                case rel => exact ⟨i + 1, 0, a2, N + 1, c2, by omega, by omega, by simp, rfl, rfl, .inr ⟨q1, by omega⟩, ⟨HX.out.1, HY.out.2.2, HY.out.1, HY.out.2.1⟩⟩
        · have HH2 := hid_of (no_hit (l := l) (v := v) (back := true) (k := i) (by rw [HPW.out, List.getElem?_eq_getElem hp]; exact fun e => hv (Option.some.inj e)))
          have hvv : (l[p] != v) = true := by rw [bne_iff_ne]; exact hv
          have HX := hid_of (show E = r - 1 - (hits l v true (i + 1)).length ∧ N = ((hits l v true (i + 1)).drop (r - 1)).length ∧ (hits l v true (i + 1)).drop (r - 1) = (hits l v true i).drop (r - 1) by
            obtain ⟨e1, e2, _⟩ := HN.out
            rw [HH2.out]; exact ⟨e1, e2, rfl⟩)
          generalize l[p] = x at *
          clear HH2 hv
          rcases hcs with q1 | ⟨q1, q2⟩
          · have q3 : ¬ 0 < count := by omega
            go_wp2_with fail
            go_roundg g'
            case measure => omega
            case rel => exact ⟨i + 1, E, a', N, c', by omega, by omega, by simp, rfl, rfl, .inl q1, ⟨HX.out.1, HX.out.2.1, by rw [HX.out.2.2]; exact HN.out.2.2.1, HN.out.2.2.2⟩⟩
          · have q3 : ((N : Int) == count) = false := by rw [beq_eq_false_iff_ne]; omega
            go_wp2_with fail
            go_roundg g'
            case measure => omega
            case rel => exact ⟨i + 1, E, a', N, c', by omega, by omega, by simp, rfl, rfl, .inr ⟨q1, q2⟩, ⟨HX.out.1, HX.out.2.1, by rw [HX.out.2.2]; exact HN.out.2.2.1, HN.out.2.2.2⟩⟩
      · have hiM : i = l.length := by omega
        subst hiM
        have HZ := hid_of (show (hits l v true (l.length)).drop (r - 1) = findN l v r true count (l.length) from less_find (by rw [← R0.out.2.1]; omega))
        have HN := hid_of R0.out
        clear R0
        go_wp2_with fail
        go_ret
        exact ⟨_, rfl, by rw [← HZ.out]; exact HN.out.2.2.1, HN.out.2.2.2⟩
end Go.Proofs.Ytdmjfmojacnbeaa.FindB
