/- The document's Find. -/
import Derived.Test.YtdmjfmojacnbeaaRefB
import Derived.Test.YtdmjfmojacnbeaaFindA
namespace Go.Proofs.Ytdmjfmojacnbeaa.RFind
open Go.RowKit
open Go.Proofs.Ytdmjfmojacnbeaa.Base
open Go.Proofs.Ytdmjfmojacnbeaa.Held
open Go.Proofs.Ytdmjfmojacnbeaa.Lay
open Go.Proofs.Ytdmjfmojacnbeaa.Free
open Go.Proofs.Ytdmjfmojacnbeaa.Keep
open Go.Proofs.Ytdmjfmojacnbeaa.FindMath
open Go.Proofs.Ytdmjfmojacnbeaa.Find
open Go.Proofs.Ytdmjfmojacnbeaa.FindA
open Go.Proofs.Ytdmjfmojacnbeaa.App
open Go.Proofs.Ytdmjfmojacnbeaa.Same
set_option linter.unusedVariables false
set_option linter.unusedSimpArgs false
section
variable {α : Type} [DecidableEq α] {l : List α} {v : α} {back : Bool} {r k : Nat} {c : Int}
theorem fn_zero : findN l v r back c 0 = [] := by unfold findN takeC; rw [hits_zero]; simp
theorem fn_no (h : ¬ l[way l.length back k]? = some v) : findN l v r back c (k + 1) = findN l v r back c k := by unfold findN; rw [no_hit h]
theorem fn_low (h : l[way l.length back k]? = some v) (hr : (hits l v back k).length + 1 < r) : findN l v r back c (k + 1) = findN l v r back c k := by
  unfold findN
  rw [hit h, List.drop_eq_nil_of_le (by simp; omega), List.drop_eq_nil_of_le (by omega)]
theorem fn_add (h : l[way l.length back k]? = some v) (hr : r ≤ (hits l v back k).length + 1) (hc : c < 1 ∨ ((findN l v r back c k).length : Int) < c) : findN l v r back c (k + 1) = findN l v r back c k ++ [way l.length back k] := by
  unfold findN takeC at *
  rw [hit h, List.drop_append_of_le_length (by omega)]
  by_cases q : c < 1
  · rw [if_pos q, if_pos q]
  · rw [if_neg q, if_neg q]
    rw [if_neg q, List.length_take] at hc
    rw [List.take_of_length_le (l := (hits l v back k).drop (r - 1)) (by omega), List.take_of_length_le (by simp; simp at hc; omega)]
theorem fn_full (h : l[way l.length back k]? = some v) (q : ¬ c < 1) (hc : ¬ ((findN l v r back c k).length : Int) < c) : findN l v r back c (k + 1) = findN l v r back c k := by
  unfold findN takeC at *
  rw [if_neg q] at hc
  rw [if_neg q, if_neg q, hit h]
  rw [List.length_take] at hc
  by_cases q2 : r - 1 ≤ (hits l v back k).length
  · rw [List.drop_append_of_le_length q2, List.take_append_of_le_length (by omega)]
  · rw [List.drop_eq_nil_of_le (by omega)] at hc
    simp at hc
    omega
end
set_option maxHeartbeats 8000000 in
set_option maxRecDepth 100000 in
theorem rfind_pos {G : Nat → Prop} {w : World} {u : Value} {l : List El} (h : SL G w u l) (v : El) (r : Nat) (count most : Int) (hr : 0 < r) (hr2 : r ≤ 9223372036854775807) (hb : l.length * 8 ≤ 140737488355328) :
    Calls Try.prog 50 #[u, V v, .int .i64 ((r : Int)), .int .i64 count, .int .i64 most] w fun e w' => ∃ v', e = .returned v' ∧ Base.NR w.heap.size w' v' (ints (findN l v r false count (looked l.length most))) ∧ Below w.heap.size w w' := by
  obtain ⟨a, c, rfl, hc, hrd⟩ := h
  have HR := hid_of hrd
  obtain ⟨L, HL⟩ : ∃ L, Hid (L = l.length) := ⟨_, hid_of rfl⟩
  obtain ⟨M, HM⟩ : ∃ M, Hid (M = looked l.length most) := ⟨_, hid_of rfl⟩
  rw [← HM.out]
  have hM : M ≤ L := by rw [HM.out, HL.out]; exact looked_le _ _
  rw [← HL.out] at hb hc ⊢
  have hcase : (most < 1 ∧ M = L) ∨ (1 ≤ most ∧ most ≤ L ∧ (M : Int) = most) ∨ (1 ≤ most ∧ (L : Int) < most ∧ M = L) := by
    rw [HM.out, ← HL.out]; unfold looked
    split
    · exact .inl ⟨by omega, rfl⟩
    · split
      · exact .inr (.inl ⟨by omega, by omega, by omega⟩)
      · exact .inr (.inr ⟨by omega, by omega, rfl⟩)
  clear hrd HM hc
  obtain ⟨S, HS⟩ : ∃ S : Int, Hid (S = -(r : Int)) := ⟨_, hid_of rfl⟩
  have s0 : S < 0 := by rw [HS.out]; omega
  have s1 : -9223372036854775808 ≤ S := by rw [HS.out]; omega
  obtain ⟨R, HRr⟩ : ∃ R : Int, Hid (R = (r : Int)) := ⟨_, hid_of rfl⟩
  rw [← HRr.out]
  have n1 : (R == 0) = false := by rw [beq_eq_false_iff_ne, HRr.out]; omega
  have n2 : ¬ R < 0 := by rw [HRr.out]; omega
  have n3 : -R = S := by rw [HRr.out, HS.out]
  have n4 : IntKind.i64.wrap S = S := IntWalk.i64_in _ (by omega)
  rcases hcase with ⟨k1, k2⟩ | ⟨k1, k2, k3⟩ | ⟨k1, k2, k3⟩
  · subst k2
    go_enter Try.func50, Try.ntmps50
    go_wp2_with fail
    go_loopg [12, 13, 14] (M) (fun g s12 s13 s14 wx => ∃ (k : Nat) (Mt : Int) (a' : Option Addr) (N c' : Nat), k ≤ M ∧ M ≤ k + g ∧ s14 = .int .i64 (k : Int) ∧ s13 = .int .i64 Mt ∧ s12 = .slice a' N c' ∧ -35184372088832 ≤ Mt ∧ Mt ≤ 0 ∧ N ≤ k ∧ Hid (Mt = -((hits l v false k).length : Int) ∧ N = (findN l v r false count k).length ∧ Base.NR w.heap.size wx (.slice a' N c') (ints (findN l v r false count k)) ∧ Below w.heap.size w wx))
    case atStart => exact ⟨0, 0, none, 0, 0, by omega, by omega, rfl, rfl, rfl, by omega, by omega, by omega, ⟨rfl, by rw [fn_zero]; rfl, .inl ⟨rfl, by rw [fn_zero]; rfl⟩, Below.refl _ _⟩⟩
    case round =>
      obtain ⟨k, Mt, a', N, c', hk, hg, rfl, rfl, rfl, hm1, hm2, hNk, R0⟩ := hrel
      by_cases hlt : k < M
      · obtain ⟨g', rfl⟩ : ∃ g', gk = g' + 1 := ⟨gk - 1, by omega⟩
        have hkL : k < M := by omega
        have hil : k < l.length := by rw [← HL.out]; exact hkL
        obtain ⟨p, HP⟩ : ∃ p, Hid (p = way l.length false k) := ⟨_, hid_of rfl⟩
        have hp : p < l.length := by rw [HP.out]; exact way_lt _ hil
        have hpL : p < M := by rw [HL.out]; exact hp
        have HPP := hid_of (show p = k by rw [HP.out]; rfl)
        have pI : (k : Int) = (p : Int) := by have := HPP.out; omega
        have mf : (k : Int) < (M : Int) := by omega
        have hhl := hits_len l v false (k + 1)
        obtain ⟨e1, e2, nr, bl⟩ := R0.out
        obtain ⟨g0, o0, rfl, _, hc0⟩ := Rd.get (HR.out.keep (w' := wr) fun j hj _ => bl.block j hj) (by omega)
        have cx := hc0 p _ (List.getElem?_eq_getElem hp)
        clear hc0
        by_cases hv : l[p] = v
        · rw [hv] at cx
          have hh : l[way l.length false k]? = some v := by rw [← HP.out, List.getElem?_eq_getElem hp, hv]
          have hh2 := hit hh
          have HM2 := hid_of (show Mt - 1 = -((hits l v false (k + 1)).length : Int) by rw [hh2, List.length_append, e1]; simp; omega)
          have hm3 : -35184372088832 ≤ Mt - 1 := by rw [HM2.out]; omega
          by_cases hlow : (hits l v false k).length + 1 < r
          · have g1 : ¬ Mt - 1 ≤ S := by rw [e1, HS.out]; omega
            have HX := hid_of (show Mt - 1 = -((hits l v false (k + 1)).length : Int) ∧ N = (findN l v r false count (k + 1)).length ∧ Base.NR w.heap.size wr (.slice a' N c') (ints (findN l v r false count (k + 1))) ∧ Below w.heap.size w wr by
              rw [fn_low hh hlow]; exact ⟨HM2.out, e2, nr, bl⟩)
            clear R0 e1 e2 nr bl hv hh hh2 hlow hhl
            go_wp2_with fail
            go_roundg g'
            case measure => omega
            case rel => exact ⟨k + 1, Mt - 1, a', N, c', by omega, by omega, by (first | (simp; done) | (congr 1; have := HPP.out; omega)), rfl, rfl, by omega, by omega, by omega, HX⟩
          · have g1 : Mt - 1 ≤ S := by rw [e1, HS.out]; omega
            by_cases hadd : count < 1 ∨ (N : Int) < count
            · obtain ⟨v2, w2, hrun, n2, b2⟩ := App.app_one (p : Int) nr (by rw [ints_len, ← e2]; omega) bl.size 22
              obtain ⟨a2, c2, rfl⟩ : ∃ a2 c2, v2 = .slice a2 (N + 1) c2 := by
                obtain ⟨a2, c2, e, _, _⟩ := Free.NR.shape n2
                rw [List.length_append, ints_len, ← e2] at e
                exact ⟨a2, c2, e⟩
              have HX := hid_of (show Mt - 1 = -((hits l v false (k + 1)).length : Int) ∧ N + 1 = (findN l v r false count (k + 1)).length ∧ Base.NR w.heap.size w2 (.slice a2 (N + 1) c2) (ints (findN l v r false count (k + 1))) ∧ Below w.heap.size w w2 by
                rw [fn_add hh (by omega) (by rw [← e2]; exact hadd), ← HP.out]
                exact ⟨HM2.out, by rw [List.length_append, ← e2]; rfl, by simpa [ints] using n2, bl.trans b2⟩)
              clear R0 e1 e2 nr bl n2 b2 hv hh hh2 hlow hhl
              rcases hadd with q1 | q1
              · go_wp2_with (at_builtin; refine wpl_eq rfl _ _ 22 22 rfl (.slice a' N c') (.slice (some ⟨wr.heap.size, 0, none⟩) 1 1) (.slice a2 (N + 1) c2) _ w2 rfl rfl hrun ?_)
                go_roundg g'
                case measure => omega
                case rel => exact ⟨k + 1, Mt - 1, a2, N + 1, c2, by omega, by omega, by (first | (simp; done) | (congr 1; have := HPP.out; omega)), rfl, rfl, by omega, by omega, by omega, HX⟩
              · by_cases q2 : count < 1
                · exfalso; omega
                · go_wp2_with (at_builtin; refine wpl_eq rfl _ _ 22 22 rfl (.slice a' N c') (.slice (some ⟨wr.heap.size, 0, none⟩) 1 1) (.slice a2 (N + 1) c2) _ w2 rfl rfl hrun ?_)
                  go_roundg g'
                  case measure => omega
                  case rel => exact ⟨k + 1, Mt - 1, a2, N + 1, c2, by omega, by omega, by (first | (simp; done) | (congr 1; have := HPP.out; omega)), rfl, rfl, by omega, by omega, by omega, HX⟩
            · have q1 : ¬ count < 1 := fun e => hadd (.inl e)
              have q2 : ¬ (N : Int) < count := fun e => hadd (.inr e)
              have q3 : decide ((N : Int) < count) = false := by simpa using q2
              have HX := hid_of (show Mt - 1 = -((hits l v false (k + 1)).length : Int) ∧ N = (findN l v r false count (k + 1)).length ∧ Base.NR w.heap.size wr (.slice a' N c') (ints (findN l v r false count (k + 1))) ∧ Below w.heap.size w wr by
                rw [fn_full hh q1 (by rw [← e2]; exact q2)]; exact ⟨HM2.out, e2, nr, bl⟩)
              clear R0 e1 e2 nr bl hv hh hh2 hlow hhl hadd
              go_wp2_with fail
              go_roundg g'
              case measure => omega
              case rel => exact ⟨k + 1, Mt - 1, a', N, c', by omega, by omega, by (first | (simp; done) | (congr 1; have := HPP.out; omega)), rfl, rfl, by omega, by omega, by omega, HX⟩
        · have hh : ¬ l[way l.length false k]? = some v := by rw [← HP.out, List.getElem?_eq_getElem hp]; exact fun e => hv (Option.some.inj e)
          have hvv : (l[p] != v) = true := by rw [bne_iff_ne]; exact hv
          have HX := hid_of (show Mt = -((hits l v false (k + 1)).length : Int) ∧ N = (findN l v r false count (k + 1)).length ∧ Base.NR w.heap.size wr (.slice a' N c') (ints (findN l v r false count (k + 1))) ∧ Below w.heap.size w wr by
            rw [fn_no hh, no_hit hh]; exact ⟨e1, e2, nr, bl⟩)
          generalize l[p] = x at *
          clear R0 e1 e2 nr bl hv hh hhl
          go_wp2_with fail
          go_roundg g'
          case measure => omega
          case rel => exact ⟨k + 1, Mt, a', N, c', by omega, by omega, by (first | (simp; done) | (congr 1; have := HPP.out; omega)), rfl, rfl, by omega, by omega, by omega, HX⟩
      · have hkM : k = M := by omega
        have HN := hid_of R0.out
        rw [hkM] at HN
        have mf : ¬ k < M := by omega
        clear R0
        go_wp2_with fail
        all_goals
          go_ret
          exact ⟨_, rfl, HN.out.2.2.1, HN.out.2.2.2⟩

  · subst k3
    have k4 : ¬ (M : Int) < 1 := by omega
    go_enter Try.func50, Try.ntmps50
    go_wp2_with fail
    go_loopg [12, 13, 14] (M) (fun g s12 s13 s14 wx => ∃ (k : Nat) (Mt : Int) (a' : Option Addr) (N c' : Nat), k ≤ M ∧ M ≤ k + g ∧ s14 = .int .i64 (k : Int) ∧ s13 = .int .i64 Mt ∧ s12 = .slice a' N c' ∧ -35184372088832 ≤ Mt ∧ Mt ≤ 0 ∧ N ≤ k ∧ Hid (Mt = -((hits l v false k).length : Int) ∧ N = (findN l v r false count k).length ∧ Base.NR w.heap.size wx (.slice a' N c') (ints (findN l v r false count k)) ∧ Below w.heap.size w wx))
    case atStart => exact ⟨0, 0, none, 0, 0, by omega, by omega, rfl, rfl, rfl, by omega, by omega, by omega, ⟨rfl, by rw [fn_zero]; rfl, .inl ⟨rfl, by rw [fn_zero]; rfl⟩, Below.refl _ _⟩⟩
    case round =>
      obtain ⟨k, Mt, a', N, c', hk, hg, rfl, rfl, rfl, hm1, hm2, hNk, R0⟩ := hrel
      by_cases hlt : k < M
      · obtain ⟨g', rfl⟩ : ∃ g', gk = g' + 1 := ⟨gk - 1, by omega⟩
        have hkL : k < L := by omega
        have hil : k < l.length := by rw [← HL.out]; exact hkL
        obtain ⟨p, HP⟩ : ∃ p, Hid (p = way l.length false k) := ⟨_, hid_of rfl⟩
        have hp : p < l.length := by rw [HP.out]; exact way_lt _ hil
        have hpL : p < L := by rw [HL.out]; exact hp
        have HPP := hid_of (show p = k by rw [HP.out]; rfl)
        have pI : (k : Int) = (p : Int) := by have := HPP.out; omega
        have mf : (k : Int) < (L : Int) := by omega
        have mg : (k : Int) < (M : Int) := by omega
        have hhl := hits_len l v false (k + 1)
        obtain ⟨e1, e2, nr, bl⟩ := R0.out
        obtain ⟨g0, o0, rfl, _, hc0⟩ := Rd.get (HR.out.keep (w' := wr) fun j hj _ => bl.block j hj) (by omega)
        have cx := hc0 p _ (List.getElem?_eq_getElem hp)
        clear hc0
        by_cases hv : l[p] = v
        · rw [hv] at cx
          have hh : l[way l.length false k]? = some v := by rw [← HP.out, List.getElem?_eq_getElem hp, hv]
          have hh2 := hit hh
          have HM2 := hid_of (show Mt - 1 = -((hits l v false (k + 1)).length : Int) by rw [hh2, List.length_append, e1]; simp; omega)
          have hm3 : -35184372088832 ≤ Mt - 1 := by rw [HM2.out]; omega
          by_cases hlow : (hits l v false k).length + 1 < r
          · have g1 : ¬ Mt - 1 ≤ S := by rw [e1, HS.out]; omega
            have HX := hid_of (show Mt - 1 = -((hits l v false (k + 1)).length : Int) ∧ N = (findN l v r false count (k + 1)).length ∧ Base.NR w.heap.size wr (.slice a' N c') (ints (findN l v r false count (k + 1))) ∧ Below w.heap.size w wr by
              rw [fn_low hh hlow]; exact ⟨HM2.out, e2, nr, bl⟩)
            clear R0 e1 e2 nr bl hv hh hh2 hlow hhl
            go_wp2_with fail
            go_roundg g'
            case measure => omega
            case rel => exact ⟨k + 1, Mt - 1, a', N, c', by omega, by omega, by (first | (simp; done) | (congr 1; have := HPP.out; omega)), rfl, rfl, by omega, by omega, by omega, HX⟩
          · have g1 : Mt - 1 ≤ S := by rw [e1, HS.out]; omega
            by_cases hadd : count < 1 ∨ (N : Int) < count
            · obtain ⟨v2, w2, hrun, n2, b2⟩ := App.app_one (p : Int) nr (by rw [ints_len, ← e2]; omega) bl.size 22
              obtain ⟨a2, c2, rfl⟩ : ∃ a2 c2, v2 = .slice a2 (N + 1) c2 := by
                obtain ⟨a2, c2, e, _, _⟩ := Free.NR.shape n2
                rw [List.length_append, ints_len, ← e2] at e
                exact ⟨a2, c2, e⟩
              have HX := hid_of (show Mt - 1 = -((hits l v false (k + 1)).length : Int) ∧ N + 1 = (findN l v r false count (k + 1)).length ∧ Base.NR w.heap.size w2 (.slice a2 (N + 1) c2) (ints (findN l v r false count (k + 1))) ∧ Below w.heap.size w w2 by
                rw [fn_add hh (by omega) (by rw [← e2]; exact hadd), ← HP.out]
                exact ⟨HM2.out, by rw [List.length_append, ← e2]; rfl, by simpa [ints] using n2, bl.trans b2⟩)
              clear R0 e1 e2 nr bl n2 b2 hv hh hh2 hlow hhl
              rcases hadd with q1 | q1
              · go_wp2_with (at_builtin; refine wpl_eq rfl _ _ 22 22 rfl (.slice a' N c') (.slice (some ⟨wr.heap.size, 0, none⟩) 1 1) (.slice a2 (N + 1) c2) _ w2 rfl rfl hrun ?_)
                go_roundg g'
                case measure => omega
                case rel => exact ⟨k + 1, Mt - 1, a2, N + 1, c2, by omega, by omega, by (first | (simp; done) | (congr 1; have := HPP.out; omega)), rfl, rfl, by omega, by omega, by omega, HX⟩
              · by_cases q2 : count < 1
                · exfalso; omega
                · go_wp2_with (at_builtin; refine wpl_eq rfl _ _ 22 22 rfl (.slice a' N c') (.slice (some ⟨wr.heap.size, 0, none⟩) 1 1) (.slice a2 (N + 1) c2) _ w2 rfl rfl hrun ?_)
                  go_roundg g'
                  case measure => omega
                  case rel => exact ⟨k + 1, Mt - 1, a2, N + 1, c2, by omega, by omega, by (first | (simp; done) | (congr 1; have := HPP.out; omega)), rfl, rfl, by omega, by omega, by omega, HX⟩
            · have q1 : ¬ count < 1 := fun e => hadd (.inl e)
              have q2 : ¬ (N : Int) < count := fun e => hadd (.inr e)
              have q3 : decide ((N : Int) < count) = false := by simpa using q2
              have HX := hid_of (show Mt - 1 = -((hits l v false (k + 1)).length : Int) ∧ N = (findN l v r false count (k + 1)).length ∧ Base.NR w.heap.size wr (.slice a' N c') (ints (findN l v r false count (k + 1))) ∧ Below w.heap.size w wr by
                rw [fn_full hh q1 (by rw [← e2]; exact q2)]; exact ⟨HM2.out, e2, nr, bl⟩)
              clear R0 e1 e2 nr bl hv hh hh2 hlow hhl hadd
              go_wp2_with fail
              go_roundg g'
              case measure => omega
              case rel => exact ⟨k + 1, Mt - 1, a', N, c', by omega, by omega, by (first | (simp; done) | (congr 1; have := HPP.out; omega)), rfl, rfl, by omega, by omega, by omega, HX⟩
        · have hh : ¬ l[way l.length false k]? = some v := by rw [← HP.out, List.getElem?_eq_getElem hp]; exact fun e => hv (Option.some.inj e)
          have hvv : (l[p] != v) = true := by rw [bne_iff_ne]; exact hv
          have HX := hid_of (show Mt = -((hits l v false (k + 1)).length : Int) ∧ N = (findN l v r false count (k + 1)).length ∧ Base.NR w.heap.size wr (.slice a' N c') (ints (findN l v r false count (k + 1))) ∧ Below w.heap.size w wr by
            rw [fn_no hh, no_hit hh]; exact ⟨e1, e2, nr, bl⟩)
          generalize l[p] = x at *
          clear R0 e1 e2 nr bl hv hh hhl
          go_wp2_with fail
          go_roundg g'
          case measure => omega
          case rel => exact ⟨k + 1, Mt, a', N, c', by omega, by omega, by (first | (simp; done) | (congr 1; have := HPP.out; omega)), rfl, rfl, by omega, by omega, by omega, HX⟩
      · have hkM : k = M := by omega
        have HN := hid_of R0.out
        rw [hkM] at HN
        have mg : ¬ k < M := by omega
        have mg2 : decide ((k : Int) < (M : Int)) = false := by simp; omega
        clear R0
        go_wp2_with fail
        all_goals
          go_ret
          exact ⟨_, rfl, HN.out.2.2.1, HN.out.2.2.2⟩

  · subst k3
    have k4 : ¬ most < 1 := by omega
    go_enter Try.func50, Try.ntmps50
    go_wp2_with fail
    go_loopg [12, 13, 14] (M) (fun g s12 s13 s14 wx => ∃ (k : Nat) (Mt : Int) (a' : Option Addr) (N c' : Nat), k ≤ M ∧ M ≤ k + g ∧ s14 = .int .i64 (k : Int) ∧ s13 = .int .i64 Mt ∧ s12 = .slice a' N c' ∧ -35184372088832 ≤ Mt ∧ Mt ≤ 0 ∧ N ≤ k ∧ Hid (Mt = -((hits l v false k).length : Int) ∧ N = (findN l v r false count k).length ∧ Base.NR w.heap.size wx (.slice a' N c') (ints (findN l v r false count k)) ∧ Below w.heap.size w wx))
    case atStart => exact ⟨0, 0, none, 0, 0, by omega, by omega, rfl, rfl, rfl, by omega, by omega, by omega, ⟨rfl, by rw [fn_zero]; rfl, .inl ⟨rfl, by rw [fn_zero]; rfl⟩, Below.refl _ _⟩⟩
    case round =>
      obtain ⟨k, Mt, a', N, c', hk, hg, rfl, rfl, rfl, hm1, hm2, hNk, R0⟩ := hrel
      by_cases hlt : k < M
      · obtain ⟨g', rfl⟩ : ∃ g', gk = g' + 1 := ⟨gk - 1, by omega⟩
        have hkL : k < M := by omega
        have hil : k < l.length := by rw [← HL.out]; exact hkL
        obtain ⟨p, HP⟩ : ∃ p, Hid (p = way l.length false k) := ⟨_, hid_of rfl⟩
        have hp : p < l.length := by rw [HP.out]; exact way_lt _ hil
        have hpL : p < M := by rw [HL.out]; exact hp
        have HPP := hid_of (show p = k by rw [HP.out]; rfl)
        have pI : (k : Int) = (p : Int) := by have := HPP.out; omega
        have mf : (k : Int) < (M : Int) := by omega
        have mg : (k : Int) < most := by omega
        have hhl := hits_len l v false (k + 1)
        obtain ⟨e1, e2, nr, bl⟩ := R0.out
        obtain ⟨g0, o0, rfl, _, hc0⟩ := Rd.get (HR.out.keep (w' := wr) fun j hj _ => bl.block j hj) (by omega)
        have cx := hc0 p _ (List.getElem?_eq_getElem hp)
        clear hc0
        by_cases hv : l[p] = v
        · rw [hv] at cx
          have hh : l[way l.length false k]? = some v := by rw [← HP.out, List.getElem?_eq_getElem hp, hv]
          have hh2 := hit hh
          have HM2 := hid_of (show Mt - 1 = -((hits l v false (k + 1)).length : Int) by rw [hh2, List.length_append, e1]; simp; omega)
          have hm3 : -35184372088832 ≤ Mt - 1 := by rw [HM2.out]; omega
          by_cases hlow : (hits l v false k).length + 1 < r
          · have g1 : ¬ Mt - 1 ≤ S := by rw [e1, HS.out]; omega
            have HX := hid_of (show Mt - 1 = -((hits l v false (k + 1)).length : Int) ∧ N = (findN l v r false count (k + 1)).length ∧ Base.NR w.heap.size wr (.slice a' N c') (ints (findN l v r false count (k + 1))) ∧ Below w.heap.size w wr by
              rw [fn_low hh hlow]; exact ⟨HM2.out, e2, nr, bl⟩)
            clear R0 e1 e2 nr bl hv hh hh2 hlow hhl
            go_wp2_with fail
            go_roundg g'
            case measure => omega
            case rel => exact ⟨k + 1, Mt - 1, a', N, c', by omega, by omega, by (first | (simp; done) | (congr 1; have := HPP.out; omega)), rfl, rfl, by omega, by omega, by omega, HX⟩
          · have g1 : Mt - 1 ≤ S := by rw [e1, HS.out]; omega
            by_cases hadd : count < 1 ∨ (N : Int) < count
            · obtain ⟨v2, w2, hrun, n2, b2⟩ := App.app_one (p : Int) nr (by rw [ints_len, ← e2]; omega) bl.size 22
              obtain ⟨a2, c2, rfl⟩ : ∃ a2 c2, v2 = .slice a2 (N + 1) c2 := by
                obtain ⟨a2, c2, e, _, _⟩ := Free.NR.shape n2
                rw [List.length_append, ints_len, ← e2] at e
                exact ⟨a2, c2, e⟩
              have HX := hid_of (show Mt - 1 = -((hits l v false (k + 1)).length : Int) ∧ N + 1 = (findN l v r false count (k + 1)).length ∧ Base.NR w.heap.size w2 (.slice a2 (N + 1) c2) (ints (findN l v r false count (k + 1))) ∧ Below w.heap.size w w2 by
                rw [fn_add hh (by omega) (by rw [← e2]; exact hadd), ← HP.out]
                exact ⟨HM2.out, by rw [List.length_append, ← e2]; rfl, by simpa [ints] using n2, bl.trans b2⟩)
              clear R0 e1 e2 nr bl n2 b2 hv hh hh2 hlow hhl
              rcases hadd with q1 | q1
              · go_wp2_with (at_builtin; refine wpl_eq rfl _ _ 22 22 rfl (.slice a' N c') (.slice (some ⟨wr.heap.size, 0, none⟩) 1 1) (.slice a2 (N + 1) c2) _ w2 rfl rfl hrun ?_)
                go_roundg g'
                case measure => omega
                case rel => exact ⟨k + 1, Mt - 1, a2, N + 1, c2, by omega, by omega, by (first | (simp; done) | (congr 1; have := HPP.out; omega)), rfl, rfl, by omega, by omega, by omega, HX⟩
              · by_cases q2 : count < 1
                · exfalso; omega
                · go_wp2_with (at_builtin; refine wpl_eq rfl _ _ 22 22 rfl (.slice a' N c') (.slice (some ⟨wr.heap.size, 0, none⟩) 1 1) (.slice a2 (N + 1) c2) _ w2 rfl rfl hrun ?_)
                  go_roundg g'
                  case measure => omega
                  case rel => exact ⟨k + 1, Mt - 1, a2, N + 1, c2, by omega, by omega, by (first | (simp; done) | (congr 1; have := HPP.out; omega)), rfl, rfl, by omega, by omega, by omega, HX⟩
            · have q1 : ¬ count < 1 := fun e => hadd (.inl e)
              have q2 : ¬ (N : Int) < count := fun e => hadd (.inr e)
              have q3 : decide ((N : Int) < count) = false := by simpa using q2
              have HX := hid_of (show Mt - 1 = -((hits l v false (k + 1)).length : Int) ∧ N = (findN l v r false count (k + 1)).length ∧ Base.NR w.heap.size wr (.slice a' N c') (ints (findN l v r false count (k + 1))) ∧ Below w.heap.size w wr by
                rw [fn_full hh q1 (by rw [← e2]; exact q2)]; exact ⟨HM2.out, e2, nr, bl⟩)
              clear R0 e1 e2 nr bl hv hh hh2 hlow hhl hadd
              go_wp2_with fail
              go_roundg g'
              case measure => omega
              case rel => exact ⟨k + 1, Mt - 1, a', N, c', by omega, by omega, by (first | (simp; done) | (congr 1; have := HPP.out; omega)), rfl, rfl, by omega, by omega, by omega, HX⟩
        · have hh : ¬ l[way l.length false k]? = some v := by rw [← HP.out, List.getElem?_eq_getElem hp]; exact fun e => hv (Option.some.inj e)
          have hvv : (l[p] != v) = true := by rw [bne_iff_ne]; exact hv
          have HX := hid_of (show Mt = -((hits l v false (k + 1)).length : Int) ∧ N = (findN l v r false count (k + 1)).length ∧ Base.NR w.heap.size wr (.slice a' N c') (ints (findN l v r false count (k + 1))) ∧ Below w.heap.size w wr by
            rw [fn_no hh, no_hit hh]; exact ⟨e1, e2, nr, bl⟩)
          generalize l[p] = x at *
          clear R0 e1 e2 nr bl hv hh hhl
          go_wp2_with fail
          go_roundg g'
          case measure => omega
          case rel => exact ⟨k + 1, Mt, a', N, c', by omega, by omega, by (first | (simp; done) | (congr 1; have := HPP.out; omega)), rfl, rfl, by omega, by omega, by omega, HX⟩
      · have hkM : k = M := by omega
        have HN := hid_of R0.out
        rw [hkM] at HN
        have mf : ¬ k < M := by omega
        clear R0
        go_wp2_with fail
        all_goals
          go_ret
          exact ⟨_, rfl, HN.out.2.2.1, HN.out.2.2.2⟩
end Go.Proofs.Ytdmjfmojacnbeaa.RFind
