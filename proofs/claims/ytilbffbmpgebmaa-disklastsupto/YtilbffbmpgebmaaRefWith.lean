/- The document's own names: with, change. -/
import Derived.Test.YtilbffbmpgebmaaRefNames
import Derived.Test.YtilbffbmpgebmaaRefMath
import Derived.Deep.RegionHeld3
namespace Go.Proofs.Ytilbffbmpgebmaa.RefWith
open Go.RowKit Go.Maps
open Go.Proofs.Ytilbffbmpgebmaa.DiskMath
open Go.Proofs.Ytilbffbmpgebmaa.RefMath
open Go.Proofs.Ytilbffbmpgebmaa.Base
open Go.Proofs.Ytilbffbmpgebmaa.Small
open Go.Proofs.Ytilbffbmpgebmaa.Append
open Go.Proofs.Ytilbffbmpgebmaa.Plan
open Go.Proofs.Ytilbffbmpgebmaa.RefNames
set_option linter.unusedVariables false

theorem less_mk (s : ByteArray) (a : Bs) : Go.Op.bytesLess s.toList (mk a).toList = bytesBefore (bs s) a := by
  rw [Lib.toList_data, Lib.toList_data, less_before]; rfl
theorem less_km (s : ByteArray) (a : Bs) : Go.Op.bytesLess (mk a).toList s.toList = bytesBefore a (bs s) := by
  rw [Lib.toList_data, Lib.toList_data, less_before]; rfl
theorem on_low {w W wx : World} {l : NL} {v : Value} (h : ON W l v wx) (hb : Below w.heap.size w W) : ON w l v wx := by
  refine ⟨?_, hb.trans (h.2.mono hb.size)⟩
  refine ⟨h.1.1, ?_⟩
  rcases h.1.2 with q | ⟨g, cap, cur, q1, q2, q3⟩
  · exact Or.inl q
  · exact Or.inr ⟨g, cap, cur, q1, Nat.le_trans hb.size q2, q3⟩
/- the last name that was laid -/
theorem on_last {w wx : World} {b : NL} {y : Bs × Nat} {a : Option Addr} {n c : Nat} (h : ON w (b ++ [y]) (.slice a n c) wx) : n = b.length + 1 ∧ ∃ g, a = some ⟨g, 0, none⟩ ∧ wx.cell? ⟨g, b.length * 2, none⟩ = some (.string (mk y.1)) := by
  obtain ⟨a', c', e, hc⟩ := on_sl h
  injection e with e1 e2 e3
  refine ⟨by rw [e2]; simp, ?_⟩
  rcases h.1.2 with ⟨q, _⟩ | ⟨g, cap, cur, q, _⟩
  · have : (b ++ [y]).length = 0 := by cases q; simp at e2
    simp at this
  · injection q with q1 q2 q3
    subst q1
    refine ⟨g, rfl, ?_⟩
    rcases hc with hc | ⟨g', o', e', hc⟩
    · simp at hc
    · subst e1
      cases e'
      have := (hc b.length (by simp)).1
      simpa using this
set_option maxHeartbeats 4000000 in
set_option maxRecDepth 100000 in
theorem with_call (v : Value) (l0 : NL) (s : ByteArray) (f : Nat) (w : World) (h : NmSl w v l0) (hl : l0.length < 1099511627776) (hr : Rise l0) : Calls Try.prog 67 #[v, .string s, .int .i64 (f : Int)] w fun e w' => ∃ v', e = .returned v' ∧ ON w (withL l0 (bs s) f) v' w' := by
  have H1 := hid_of (without_call v l0 s w h hl)
  obtain ⟨a, c, rfl, h⟩ := h
  clear h
  obtain ⟨l, hld⟩ : ∃ l, l = wout l0 (bs s) := ⟨_, rfl⟩
  have hll : l.length ≤ l0.length := by rw [hld]; exact wout_len _ _
  have HR : Hid (Rise l) := by rw [hld]; exact rise_wout hr _
  have HNE : Hid (∀ p ∈ l, p.1 ≠ bs s) := by rw [hld]; exact fun p hp => wout_ne hp
  have HW : Hid (withL l0 (bs s) f = insL (bs s, f) l) := by show _ = _; rw [hld]; rfl
  rw [← hld] at H1
  obtain ⟨n, hn⟩ : ∃ n, n = l.length := ⟨_, rfl⟩
  obtain ⟨i0, hi, hz0, hz1, hz2⟩ := parts info105
  clear hld hr
  go_enter Try.func67, Try.ntmps67
  go_wp2_with fail
  refine H1.out.mono ?_
  rintro e w1 ⟨v1, rfl, o1⟩
  have HO1 := hid_of o1
  obtain ⟨a1, c1, e1, hc1⟩ := on_sl o1
  subst e1
  rw [← hn]
  have HS1 : Hid (l = [] ∨ ∃ g o, a1 = some ⟨g, o, none⟩ ∧ ∀ k (h : k < l.length), w1.cell? ⟨g, o + k * 2, none⟩ = some (.string (mk (l[k]'h).1)) ∧ w1.cell? ⟨g, o + k * 2 + 1, none⟩ = some (.int .i64 ((l[k]'h).2 : Int))) := hc1
  clear o1 hc1 H1
  go_wp2_with fail
  go_loopg [8, 7] l.length (fun g si so wx => ∃ (k : Nat) (out : NL), k ≤ n ∧ n ≤ k + g ∧ si = .int .i64 k ∧ Hid (Wi (bs s, f) l k out ∧ ON w1 out so wx))
  case atStart => exact ⟨0, [], by omega, by omega, rfl, wi_zero _ _, on_start w1⟩
  case round =>
    obtain ⟨k, out, hk, hg, rfl, HI⟩ := hrel
    by_cases hlt : k < n
    · obtain ⟨g', rfl⟩ : ∃ g', gk = g' + 1 := ⟨gk - 1, by omega⟩
      have hltl : k < l.length := by omega
      obtain ⟨gb, o, rfl, hc⟩ : ∃ g o, a1 = some ⟨g, o, none⟩ ∧ ∀ k (h : k < l.length), w1.cell? ⟨g, o + k * 2, none⟩ = some (.string (mk (l[k]'h).1)) ∧ w1.cell? ⟨g, o + k * 2 + 1, none⟩ = some (.int .i64 ((l[k]'h).2 : Int)) := by
        rcases HS1.out with h | h
        · subst h; simp at hltl
        · exact h
      obtain ⟨d0, d1⟩ := hc k hltl
      have c0 := cell_on HI.out.2.2 d0
      have c1' := cell_on HI.out.2.2 d1
      have ew : IntKind.i64.wrap ((k : Int) + 1) = (k : Int) + 1 := IntWalk.i64_in _ (by omega)
      have gi : (k : Int) < (n : Int) := by omega
      obtain ⟨p, hp⟩ : ∃ p, p = l[k] := ⟨_, rfl⟩
      rw [← hp] at c0 c1' d0 d1
      have HP := hid_of hp
      have hs1 := less_mk s p.1
      have hf : ∃ a c, u7 = .slice a out.length c := by
        obtain ⟨a, c, e, _⟩ := on_sl HI.out.2
        exact ⟨a, c, e⟩
      obtain ⟨ao, co, rfl⟩ := hf
      have HX : Hid (nmCells p = [.string (mk p.1), .int .i64 (p.2 : Int)]) := rfl
      have HXk : Hid (nmCells (bs s, f) = [.string s, .int .i64 (f : Int)]) := by show [_, _] = _; rw [mk_bs]
      obtain ⟨X, hX⟩ : ∃ X, X = mk p.1 := ⟨_, rfl⟩
      rw [← hX] at c0 hs1 HX
      have HO := hid_of HI.out.2
      rw [← hX] at d0
      cases hq : bytesBefore (bs s) p.1 with
      | false =>
        rw [hq] at hs1
        have HN : Hid (Wi (bs s, f) l (k + 1) (out ++ [p]) ∧ out.length ≤ k) := by
          have := wi_skip HI.out.1 HR.out hltl (by rw [← HP.out]; exact hq)
          rw [← HP.out] at this
          exact this
        have hol := HN.out.2
        clear hc hp hX hq d0 d1 HI
        go_wp2_with (first
          | (at_builtin; refine wpList_append_own _ rfl _ _ 27 rfl w1.heap.size 105 i0 (.agg #[.string ⟨#[]⟩, .int .i64 0]) 2 24 Try.underlying27 hi hz0 hz1 hz2 rfl (by decide) _ _ _ rfl (HO.out.1.alloc _) _ 1 1 [.string X, .int .i64 (p.2 : Int)] rfl rfl (two_new _ _ _ _) (by simp [Value.oneCell']) (by unfold maxLen; omega) (by omega) (by have := HO.out.2.size; simp; omega) ?_; intro v' w2 hown hg1 hnil; go_frame)
          | go_in)
        rw [← HX.out] at hown
        have HN2 := hid_of (on_snoc HO.out hown hg1)
        clear hown hg1 hnil
        go_wp2_with fail
        go_roundg g'
        case measure => omega
        case rel => exact ⟨k + 1, _, by omega, by omega, by rw [show ((k + 1 : Nat) : Int) = (k : Int) + 1 from by omega], HN.out.1, HN2.out⟩
      | true =>
        rw [hq] at hs1
        rcases wi_cases HI.out.1 with ⟨h0, h1, h2⟩ | ⟨i, hil, h0, h1, h2⟩
        · have HN : Hid (Wi (bs s, f) l (k + 1) ((out ++ [(bs s, f)]) ++ [p])) := by
            rw [HP.out, h0]
            exact wi_here hltl h2 (by rw [← HP.out]; exact hq)
          have hol : out.length = k := by rw [h0, List.length_take]; omega
          by_cases hk0 : k = 0
          · have hm : ((out.length : Nat) : Int) = 0 := by omega
            have hmb : (((out.length : Nat) : Int) == 0) = true := by rw [hm]; rfl
            have hol2 : out.length ≤ k := by omega
            clear hc hp hX hq HI h0 h1 h2 hol hm hk0
            go_wp2_with (first
              | (at_builtin; refine wpList_append_own _ rfl _ _ 27 rfl w1.heap.size 105 i0 (.agg #[.string ⟨#[]⟩, .int .i64 0]) 2 24 Try.underlying27 hi hz0 hz1 hz2 rfl (by decide) _ _ _ rfl (HA.out.1.alloc _) _ 1 1 [.string X, .int .i64 (p.2 : Int)] rfl rfl (two_new _ _ _ _) (by simp [Value.oneCell']) (by unfold maxLen; omega) (by omega) (by have := HA.out.2.size; simp; omega) ?_; intro v2 w3 hown hg1 hnil; go_frame)
              | (at_builtin; refine wpList_append_own _ rfl _ _ 27 rfl w1.heap.size 105 i0 (.agg #[.string ⟨#[]⟩, .int .i64 0]) 2 24 Try.underlying27 hi hz0 hz1 hz2 rfl (by decide) _ _ _ rfl (HO.out.1.alloc _) _ 1 1 [.string s, .int .i64 (f : Int)] rfl rfl (two_new _ _ _ _) (by simp [Value.oneCell']) (by unfold maxLen; omega) (by omega) (by have := HO.out.2.size; simp; omega) ?_; intro v' w2 hown hg1 hnil; rw [← HXk.out] at hown; have HA := hid_of (on_snoc HO.out hown hg1); clear hown hg1 hnil; have hax : (out ++ [(bs s, f)]).length = out.length + 1 := List.length_append; have e0 := cell_on HA.out.2 d0; have e1 := cell_on HA.out.2 d1; go_frame)
              | go_in)
            rw [← HX.out] at hown
            have HN2 := hid_of (on_snoc HA.out hown hg1)
            clear hown hg1 hnil
            go_wp2_with fail
            go_roundg g'
            case measure => omega
            case rel => exact ⟨k + 1, _, by omega, by omega, by rw [show ((k + 1 : Nat) : Int) = (k : Int) + 1 from by omega], HN.out, HN2.out⟩
          · have hb : ∃ b y, out = b ++ [y] ∧ b.length + 1 = k ∧ bytesBefore y.1 (bs s) = true := by
              obtain ⟨j, rfl⟩ : ∃ j, k = j + 1 := ⟨k - 1, by omega⟩
              have hj : j < l.length := by omega
              refine ⟨l.take j, l[j], by rw [h0, take_snoc l j hj], by rw [List.length_take]; omega, before_tri (fun e => HNE.out _ (List.getElem_mem hj) e.symm) (h2 _ ?_)⟩
              rw [take_snoc l j hj]
              exact List.mem_append_right _ (List.mem_singleton.2 rfl)
            obtain ⟨b, y, hob, hbk, hby⟩ := hb
            have hlast := HO.out
            rw [hob] at hlast
            obtain ⟨hn1, gl, rfl, cl⟩ := on_last hlast
            have hs2 := less_km s y.1
            rw [hby] at hs2
            rw [← hob] at hn1
            obtain ⟨m, hm⟩ : ∃ m, m = b.length := ⟨_, rfl⟩
            rw [← hm] at cl hn1 hbk
            have hmb : (((m + 1 : Nat) : Int) == 0) = false := by rw [beq_eq_false_iff_ne]; omega
            have hmb2 : (((m : Int) + 1) == 0) = false := by rw [beq_eq_false_iff_ne]; omega
            have ew1 : IntKind.i64.wrap ((m : Int) + 1 - 1) = (m : Int) := by rw [show (m : Int) + 1 - 1 = (m : Int) from by omega]; exact IntWalk.i64_in _ (by omega)
            have ew2 : IntKind.i64.wrap (m : Int) = (m : Int) := IntWalk.i64_in _ (by omega)
            have hol2 : out.length ≤ k := by omega
            obtain ⟨Y, hY⟩ : ∃ Y, Y = mk y.1 := ⟨_, rfl⟩
            rw [← hY] at cl hs2
            have HL1 := hid_of hn1
            rw [hn1]
            rw [hn1] at HO
            clear hc hp hX hq HI h0 h1 h2 hol hk0 hlast hob hm hY hby hn1 hbk
            go_wp2_with (first
              | (at_builtin; refine wpList_append_own _ rfl _ _ 27 rfl w1.heap.size 105 i0 (.agg #[.string ⟨#[]⟩, .int .i64 0]) 2 24 Try.underlying27 hi hz0 hz1 hz2 rfl (by decide) _ _ _ rfl (HA.out.1.alloc _) _ 1 1 [.string X, .int .i64 (p.2 : Int)] rfl rfl (two_new _ _ _ _) (by simp [Value.oneCell']) (by unfold maxLen; omega) (by omega) (by have := HA.out.2.size; simp; omega) ?_; intro v2 w3 hown hg1 hnil; go_frame)
              | (at_builtin; refine wpList_append_own _ rfl _ _ 27 rfl w1.heap.size 105 i0 (.agg #[.string ⟨#[]⟩, .int .i64 0]) 2 24 Try.underlying27 hi hz0 hz1 hz2 rfl (by decide) _ _ _ rfl (HO.out.1.alloc _) _ 1 1 [.string s, .int .i64 (f : Int)] rfl rfl (two_new _ _ _ _) (by simp [Value.oneCell']) (by unfold maxLen; omega) (by omega) (by have := HO.out.2.size; simp; omega) ?_; intro v' w2 hown hg1 hnil; rw [← HXk.out] at hown; have HA := hid_of (on_snoc HO.out hown hg1); clear hown hg1 hnil; have hax : (out ++ [(bs s, f)]).length = out.length + 1 := List.length_append; have e0 := cell_on HA.out.2 d0; have e1 := cell_on HA.out.2 d1; go_frame)
              | go_in)
            rw [← HX.out] at hown
            have HN2 := hid_of (on_snoc HA.out hown hg1)
            clear hown hg1 hnil
            go_wp2_with fail
            go_roundg g'
            case measure => omega
            case rel => exact ⟨k + 1, _, by omega, by omega, by rw [show ((k + 1 : Nat) : Int) = (k : Int) + 1 from by omega], HN.out, HN2.out⟩
        · obtain rfl : k = i + 1 := h0
          have hpast := wi_past (x := (bs s, f)) hltl h2 (by rw [← HP.out]; exact hq)
          rw [← h1] at hpast
          obtain ⟨hw2, b, hob, hbk⟩ := hpast
          have HN : Hid (Wi (bs s, f) l (i + 1 + 1) (out ++ [p])) := by rw [HP.out]; exact hw2
          have hlast := HO.out
          rw [hob] at hlast
          obtain ⟨hn1, gl, rfl, cl⟩ := on_last hlast
          have hs2 := less_km s (l[i]).1
          rw [before_asym h2] at hs2
          rw [← hob, hbk] at hn1
          rw [hbk] at cl
          obtain ⟨Y, hY⟩ : ∃ Y, Y = mk (l[i]).1 := ⟨_, rfl⟩
          rw [← hY] at cl hs2
          rw [hn1]
          rw [hn1] at HO
          clear hc hp hX hq HI h1 h2 hlast hob hY hw2
          have hmb : (((i + 1 + 1 : Nat) : Int) == 0) = false := by rw [beq_eq_false_iff_ne]; omega
          have hmb2 : (((i : Int) + 1 + 1) == 0) = false := by rw [beq_eq_false_iff_ne]; omega
          have ew1 : IntKind.i64.wrap ((i : Int) + 1 + 1 - 1) = (i : Int) + 1 := by rw [show (i : Int) + 1 + 1 - 1 = (i : Int) + 1 from by omega]; exact IntWalk.i64_in _ (by omega)
          have ew2 : IntKind.i64.wrap ((i : Int) + 1) = (i : Int) + 1 := IntWalk.i64_in _ (by omega)
          go_wp2_with (first
            | (at_builtin; refine wpList_append_own _ rfl _ _ 27 rfl w1.heap.size 105 i0 (.agg #[.string ⟨#[]⟩, .int .i64 0]) 2 24 Try.underlying27 hi hz0 hz1 hz2 rfl (by decide) _ _ _ rfl (HO.out.1.alloc _) _ 1 1 [.string X, .int .i64 (p.2 : Int)] rfl rfl (two_new _ _ _ _) (by simp [Value.oneCell']) (by unfold maxLen; omega) (by omega) (by have := HO.out.2.size; simp; omega) ?_; intro v2 w3 hown hg1 hnil; go_frame)
            | go_in)
          rw [← HX.out] at hown
          have HN2 := hid_of (on_snoc HO.out hown hg1)
          clear hown hg1 hnil
          go_wp2_with fail
          go_roundg g'
          case measure => omega
          case rel => exact ⟨i + 1 + 1, _, by omega, by omega, congrArg (Value.int IntKind.i64) (by omega), HN.out, HN2.out⟩
    · obtain rfl : k = n := by omega
      have HO := hid_of HI.out.2
      have HXk : Hid (nmCells (bs s, f) = [.string s, .int .i64 (f : Int)]) := by show [_, _] = _; rw [mk_bs]
      obtain ⟨ao, co, hf, _⟩ := on_sl HI.out.2
      subst hf
      have hwe := HI.out.1
      rw [hn] at hwe
      have gi : ¬ (k : Int) < (k : Int) := by omega
      have HB1 := hid_of HO1.out.2
      rcases wi_end hwe with ⟨q1, q2⟩ | ⟨q1, q2⟩
      · have hol : out.length = k := by rw [q1]; exact hn.symm
        have HQ : Hid (withL l0 (bs s) f = out ++ [(bs s, f)]) := by show _ = _; rw [HW.out, q2, q1]
        have hmb : (((out.length : Nat) : Int) == (k : Int)) = true := by rw [hol]; simp
        clear hwe q1 q2 HI
        go_wp2_with (first
          | (at_builtin; refine wpList_append_own _ rfl _ _ 27 rfl w1.heap.size 105 i0 (.agg #[.string ⟨#[]⟩, .int .i64 0]) 2 24 Try.underlying27 hi hz0 hz1 hz2 rfl (by decide) _ _ _ rfl (HO.out.1.alloc _) _ 1 1 [.string s, .int .i64 (f : Int)] rfl rfl (two_new _ _ _ _) (by simp [Value.oneCell']) (by unfold maxLen; omega) (by omega) (by have := HO.out.2.size; simp; omega) ?_; intro v' w2 hown hg1 hnil; go_frame)
          | go_in)
        rw [← HXk.out] at hown
        have HA := hid_of (on_snoc HO.out hown hg1)
        clear hown hg1 hnil
        go_wp2_with fail
        go_ret
        exact ⟨_, rfl, by rw [HQ.out]; exact on_low HA.out HB1.out⟩
      · have HQ : Hid (withL l0 (bs s) f = out) := by show _ = _; rw [HW.out, q1]
        have hmb : (((out.length : Nat) : Int) == (k : Int)) = false := by rw [beq_eq_false_iff_ne]; omega
        clear hwe q1 q2 HI
        go_wp2_with fail
        go_ret
        exact ⟨_, rfl, by rw [HQ.out]; exact on_low HO.out HB1.out⟩
end Go.Proofs.Ytilbffbmpgebmaa.RefWith
