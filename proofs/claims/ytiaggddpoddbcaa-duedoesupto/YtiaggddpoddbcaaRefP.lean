/- The document's Peek. -/
import Derived.Test.YtiaggddpoddbcaaAwake
import Derived.Deep.AppendSrc
import Derived.OwnWalk
namespace Go.Proofs.Ytiaggddpoddbcaa.RefP
open Go.RowKit Go.Maps Go.Shelf
open Go.Proofs.Ytiaggddpoddbcaa.HeapMath
open Go.Proofs.Ytiaggddpoddbcaa.Heap
open Go.Proofs.Ytiaggddpoddbcaa.Turn
open Go.Proofs.Ytiaggddpoddbcaa.Before
open Go.Proofs.Ytiaggddpoddbcaa.RowB
open Go.Proofs.Ytiaggddpoddbcaa.Peek
open Go.Proofs.Ytiaggddpoddbcaa.Take
open Go.Proofs.Ytiaggddpoddbcaa.PushR (step_eq)
set_option linter.unusedVariables false
set_option linter.unusedSimpArgs false
theorem tw_at {S : Es} {now : Int} {k : Nat} (h : k < (S.takeWhile (fun x => decide (x.2 ≤ now))).length) : ∃ hk : k < S.length, S[k].2 ≤ now := by
  have hp := List.takeWhile_prefix (l := S) (fun x => decide (x.2 ≤ now))
  have hk : k < S.length := Nat.lt_of_lt_of_le h hp.length_le
  refine ⟨hk, ?_⟩
  have e := hp.getElem h
  rw [← e]
  have q := List.all_eq_true.1 (List.all_takeWhile (p := fun x : Bs × Int => decide (x.2 ≤ now)) (l := S)) _ (List.getElem_mem h)
  exact of_decide_eq_true q
theorem tw_more {S : Es} {now : Int} : ∀ {k : Nat}, k ≤ (S.takeWhile (fun x => decide (x.2 ≤ now))).length → (hk : k < S.length) → S[k].2 ≤ now → k < (S.takeWhile (fun x => decide (x.2 ≤ now))).length := by
  induction S with
  | nil => intro k _ hk; exact absurd hk (by simp)
  | cons x r ih =>
    intro k h hk hx
    cases hd : decide (x.2 ≤ now) with
    | true =>
      rw [List.takeWhile_cons_of_pos (by exact hd)] at h ⊢
      cases k with
      | zero => simp
      | succ k => have := ih (k := k) (by simpa using h) (by simpa using hk) (by simpa using hx); simpa using this
    | false =>
      rw [List.takeWhile_cons_of_neg (by rw [hd]; decide)] at h
      have : k = 0 := by simpa using h
      subst this
      have : x.2 ≤ now := by simpa using hx
      rw [decide_eq_true this] at hd
      cases hd
theorem got_more {S : Es} {now most : Int} {k : Nat} (h : k ≤ (got S now most).length) (hk : k < S.length) (hx : S[k].2 ≤ now) (hm : (k : Int) < most) : k < (got S now most).length := by
  unfold got at *
  rw [List.length_take] at *
  have := tw_more (k := k) (by omega) hk hx
  omega
theorem got_stop {S : Es} {now most : Int} {k : Nat} (h : k ≤ (got S now most).length) (hs : ¬ ((∃ hk : k < S.length, S[k].2 ≤ now) ∧ (k : Int) < most)) : k = (got S now most).length := by
  rcases Nat.lt_or_ge k (got S now most).length with q | q
  · exfalso
    unfold got at q
    rw [List.length_take] at q
    exact hs ⟨tw_at (by omega), by omega⟩
  · omega
theorem got_take (S : Es) (now most : Int) : S.take (got S now most).length = got S now most := by
  obtain ⟨r, hr⟩ := got_pre S now most
  have : S.take (got S now most).length = (got S now most ++ r).take (got S now most).length := by rw [hr]
  rw [this]
  simp
theorem keys_next {S : Es} {k : Nat} (h : k < S.length) : (keysOf (S.take (k + 1))).map sv = (keysOf (S.take k)).map sv ++ [.string (mk S[k].1)] := by
  rw [List.take_succ_eq_append_getElem h]
  unfold keysOf
  rw [List.map_append, List.map_append]
  rfl
/- the document's list, wherever it begins in its block -/
def YL (W : World) (v : Value) (S : Es) : Prop := ∃ a c, v = .slice a S.length c ∧ S.length ≤ c ∧ ∀ i (hi : i < S.length), ∃ g o, a = some ⟨g, o, none⟩ ∧ W.cell? ⟨g, o + i * 2, none⟩ = some (.string (mk S[i].1)) ∧ W.cell? ⟨g, o + i * 2 + 1, none⟩ = some (.int .i64 S[i].2) ∧ ∃ cs, W.heap[g]? = some (.cells cs 62 (0, 0))
theorem YL.below {w w' : World} {v : Value} {S : Es} (h : YL w v S) (hb : Below w.heap.size w w') : YL w' v S := by
  obtain ⟨a, c, rfl, hc, h2⟩ := h
  refine ⟨a, c, rfl, hc, fun i hi => ?_⟩
  obtain ⟨g, o, rfl, q1, q2, cs, q3⟩ := h2 i hi
  exact ⟨g, o, rfl, (hb.cell (block_lt_of_cell q1)).trans q1, (hb.cell (block_lt_of_cell q2)).trans q2, cs, (hb.block g (lt_of q3)).trans q3⟩
set_option maxHeartbeats 2000000 in
set_option maxRecDepth 100000 in
theorem rpeek_call {y : Nat} {v : Value} {S : Es} {w : World} (hy : w.cell? ⟨y, 0, none⟩ = some v) (h : YL w v S) (hl : S.length < 1099511627776) (now most : Int) :
    Calls Try.prog 22 #[ptr y, .int .i64 now, .int .i64 most] w fun e w' => ∃ r, e = .returned r ∧ w'.ownsRow w.heap.size 9 1 r (got S now most).length ((keysOf (got S now most)).map sv) ∧ Below w.heap.size w w' := by
  obtain ⟨a, c, rfl, hc, h2⟩ := h
  have HY := hid_of (And.intro hy h2)
  obtain ⟨i0, hi0, hz0, hz1, hz2⟩ := parts9
  clear hy h2
  unfold ptr
  go_enter Try.func22, Try.ntmps22
  go_wp2_with fail
  go_loopg [7, 8] S.length (fun gk s7 s8 wx => ∃ (k : Nat) (ao : Option Addr) (co : Nat), k + gk = S.length ∧ s8 = .int .i64 (k : Int) ∧ s7 = .slice ao k co ∧ Hid (k ≤ (got S now most).length ∧ wx.ownsRow w.heap.size 9 1 (.slice ao k co) k ((keysOf (S.take k)).map sv) ∧ Below w.heap.size w wx))
  case atStart => exact ⟨0, none, 0, by omega, rfl, rfl, hid_of ⟨Nat.zero_le _, World.ownsRow_nil _ _ _ _, Below.refl _ _⟩⟩
  case round =>
    obtain ⟨k, ao, co, hk, rfl, rfl, I⟩ := hrel
    have cy : wr.cell? ⟨y, 0, none⟩ = some (.slice a S.length c) := (I.out.2.2.cell (p := ⟨y, 0, none⟩) (block_lt_of_cell HY.out.1)).trans HY.out.1
    have HEND : Hid (k = (got S now most).length → wr.ownsRow w.heap.size 9 1 (.slice ao k co) (got S now most).length ((keysOf (got S now most)).map sv)) := hid_of fun e => by
      have := I.out.2.1
      rw [e, got_take] at this
      rw [e]
      exact this
    by_cases hlt : k < S.length
    · obtain ⟨g, o, rfl, q1, q2, -⟩ := HY.out.2 k hlt
      have d1 : (k : Int) < (S.length : Int) := by omega
      have p1 := (I.out.2.2.cell (block_lt_of_cell q1)).trans q1
      have p2 := (I.out.2.2.cell (block_lt_of_cell q2)).trans q2
      by_cases hx : S[k].2 ≤ now
      · by_cases hm : (k : Int) < most
        · have HK := hid_of (got_more I.out.1 hlt hx hm)
          have HT : Hid ((keysOf (S.take (k + 1))).map sv = (keysOf (S.take k)).map sv ++ [.string (mk S[k].1)]) := hid_of (keys_next hlt)
          have e2 : IntKind.i64.wrap ((k : Int) + 1) = (k : Int) + 1 := IntWalk.i64_in _ (by omega)
          have hkb : k < 1099511627776 := by omega
          generalize hX : mk S[k].1 = X at *
          clear q1 q2 HY hX HEND
          go_wp2_with (at_builtin; refine wpList_append_own _ rfl _ _ 52 rfl w.heap.size 9 i0 (.string ⟨#[]⟩) 1 16 Try.underlying52 hi0 hz0 hz1 hz2 rfl (by decide) _ _ _ rfl (I.out.2.1.alloc _) ⟨wr.heap.size, 0, none⟩ 1 1 [.string X] rfl rfl ?c1 ?c2 ?c3 ?c4 ?c5 ?_)
          case c1 => exact one_new _ _
          case c2 => simp [Value.oneCell']
          case c3 => unfold maxLen; omega
          case c4 => omega
          case c5 => have := I.out.2.2.size; simp; omega
          intro v' w1 hown hgr hnil
          obtain ⟨g', cap', rfl⟩ := succ_shape hown
          have HN : Hid (k + 1 ≤ (got S now most).length ∧ w1.ownsRow w.heap.size 9 1 (.slice (some ⟨g', 0, none⟩) (k + 1) cap') (k + 1) ((keysOf (S.take (k + 1))).map sv) ∧ Below w.heap.size w w1) := hid_of ⟨HK.out, by rw [HT.out]; exact hown, by
            have b1 : Below w.heap.size w (wr.alloc (.cells #[.string X] 9)) := I.out.2.2.alloc I.out.2.2.size _
            refine b1.grown hgr b1.size (fun j hj => ?_)
            rcases I.out.2.1.2 with ⟨e', _⟩ | ⟨g2, cap, cur, e', hb, _⟩
            · rw [e'] at hj; cases hj
            · rw [e'] at hj
              injection hj with hj
              have : g2 = j := hj
              omega⟩
          clear hown hgr hnil
          go_wp2_with fail
          go_roundg (gk - 1)
          case rel => exact ⟨k + 1, _, _, by omega, by simp, rfl, HN⟩
          case measure => omega
        · have HK := hid_of (got_stop I.out.1 (fun q => hm q.2))
          clear q1 q2 HY
          go_wp2_with fail
          go_ret
          exact ⟨_, rfl, HEND.out HK.out, I.out.2.2⟩
      · have HK := hid_of (got_stop I.out.1 (fun q => hx q.1.2))
        clear q1 q2 HY
        go_wp2_with fail
        go_ret
        exact ⟨_, rfl, HEND.out HK.out, I.out.2.2⟩
    · have HK := hid_of (got_stop I.out.1 (fun q => hlt q.1.1))
      have d1 : ¬ (k : Int) < (S.length : Int) := by omega
      clear HY
      go_wp2_with fail
      go_ret
      exact ⟨_, rfl, HEND.out HK.out, I.out.2.2⟩
end Go.Proofs.Ytiaggddpoddbcaa.RefP
