/- container/heap's own calls, moving RowS. -/
import Derived.Test.YtiaggddpoddbcaaHeap2
import Derived.Test.YtiaggddpoddbcaaHeapRowS
import Derived.OwnWalk
namespace Go.Proofs.Ytiaggddpoddbcaa.Heap
open Go.RowKit
open Go.Proofs.Ytiaggddpoddbcaa.HeapMath
set_option linter.unusedVariables false
set_option linter.unusedSimpArgs false
set_option maxHeartbeats 1000000 in
set_option maxRecDepth 100000 in
theorem pushRowS {α : Type} [Inhabited α] [DecidableEq α] {lt : α → α → Prop} [DecidableRel lt] (o : STO lt) (pv : Value) {xv : α → Value} {ok : α → List α → Prop} {R : World → List α → Prop} {F : World → World → Prop} (M : Thing 46 81 82 83 84 lt pv xv ok R F) (w : World) (l : List α) (a : α) (h : R w l) (ha : ok a l) (hb : l.length < 1099511627776) (hh : Hp lt l l.length) :
    Calls Try.prog 35 #[.iface 100 pv, xv a] w fun e w' => e = .returned (.tuple #[]) ∧ (∃ l', R w' l' ∧ Hp lt l' l'.length ∧ l'.Perm (l ++ [a])) ∧ F w w' := by
  have H1 := hid_of (M.push w l a h ha)
  have HM := hid_of M
  have HU := hid_of (fun W (hW : R W (l ++ [a])) => upRowS o pv M.moves W (l ++ [a]) (l.length + 1) l.length hW (by simp) (by simp; omega) (by omega) (up_new hh))
  obtain ⟨n, HN⟩ : ∃ n, Hid (n = l.length) := ⟨_, hid_of rfl⟩
  have hn : n < 1099511627776 := by rw [HN.out]; exact hb
  generalize xv a = X at *
  clear M o h ha hh hb
  go_enter Try.func35, Try.ntmps35
  go_wp2_with fail
  refine H1.out.mono ?_
  rintro e w1 ⟨rfl, r1, f1⟩
  have H2 := hid_of (HM.out.len w1 _ r1)
  rw [show ((l ++ [a]).length : Int) = (n : Int) + 1 by rw [HN.out]; simp] at H2
  have F1 := hid_of f1
  clear r1 f1
  go_wp2_with fail
  refine H2.out.mono ?_
  rintro e w2 ⟨rfl, r2, f2⟩
  have H3 := hid_of (HU.out w2 r2)
  rw [← HN.out] at H3
  have F2 := hid_of (HM.out.moves.trans _ _ _ F1.out f2)
  clear r2 f2
  go_wp2_with fail
  refine H3.out.mono ?_
  rintro e w3 ⟨rfl, ⟨l', r3, hw⟩, f3⟩
  have HE := hid_of (And.intro r3 (And.intro hw (HM.out.moves.trans _ _ _ F2.out f3)))
  clear r3 hw f3
  go_wp2_with fail
  go_end0
  refine ⟨rfl, ⟨l', HE.out.1, ?_, HE.out.2.1.2.1⟩, HE.out.2.2⟩
  have := HE.out.2.1.1
  rw [HE.out.2.1.2.1.length_eq]
  rw [show (l ++ [a]).length = n + 1 by rw [HN.out]; simp]
  exact this
set_option maxHeartbeats 1000000 in
set_option maxRecDepth 100000 in
theorem fixRowS {α : Type} [Inhabited α] [DecidableEq α] {lt : α → α → Prop} [DecidableRel lt] (o : STO lt) (pv : Value) {xv : α → Value} {ok : α → List α → Prop} {R : World → List α → Prop} {F : World → World → Prop} (M : Thing 46 81 82 83 84 lt pv xv ok R F) (w : World) (l : List α) (i : Nat) (h : R w l) (hi : i < l.length) (hb : l.length < 1099511627776) (hh : D0 lt l l.length i) :
    Calls Try.prog 34 #[.iface 100 pv, .int .i64 (i : Int)] w fun e w' => e = .returned (.tuple #[]) ∧ (∃ l', R w' l' ∧ Hp lt l' l'.length ∧ l'.Perm l) ∧ F w w' := by
  have H1 := hid_of (M.len w l h)
  have HM := hid_of M
  have HDn := hid_of (fun W (hW : R W l) => downRowS o pv M.moves W l l.length i hW (Nat.le_refl _) (by omega) hi hh)
  have HUp := hid_of (fun W (hW : R W l) (hu : Up lt l l.length i) => upRowS o pv M.moves W l l.length i hW (Nat.le_refl _) (by omega) hi hu)
  obtain ⟨n, HN⟩ : ∃ n, Hid (n = l.length) := ⟨_, hid_of rfl⟩
  rw [← HN.out] at H1 HDn HUp
  clear M o h hh hb
  go_enter Try.func34, Try.ntmps34
  go_wp2_with fail
  refine H1.out.mono ?_
  rintro e w1 ⟨rfl, r1, f1⟩
  have H2 := hid_of (HDn.out w1 r1)
  have F1 := hid_of f1
  clear r1 f1
  go_wp2_with fail
  refine H2.out.mono ?_
  rintro e w2 ⟨b, l', rfl, r2, hd, f2⟩
  have F2 := hid_of (HM.out.moves.trans _ _ _ F1.out f2)
  cases b with
  | true =>
    have HE := hid_of (And.intro r2 (And.intro hd (hd.2.2.1 rfl)))
    clear r2 hd f2
    go_wp2_with fail
    go_end0
    exact ⟨rfl, ⟨l', HE.out.1, by rw [HE.out.2.1.1.length_eq, ← HN.out]; exact HE.out.2.2, HE.out.2.1.1⟩, F2.out⟩
  | false =>
    obtain ⟨e1, hu⟩ := hd.2.2.2 rfl
    rw [e1] at r2
    have H3 := hid_of (HUp.out w2 r2 hu)
    clear r2 hd f2 e1 hu
    go_wp2_with fail
    refine H3.out.mono ?_
    rintro e w3 ⟨rfl, ⟨l2, r3, hw⟩, f3⟩
    have HE := hid_of (And.intro r3 (And.intro hw (HM.out.moves.trans _ _ _ F2.out f3)))
    clear r3 hw f3
    go_wp2_with fail
    go_end0
    exact ⟨rfl, ⟨l2, HE.out.1, by rw [HE.out.2.1.2.1.length_eq, ← HN.out]; exact HE.out.2.1.1, HE.out.2.1.2.1⟩, HE.out.2.2⟩
set_option maxHeartbeats 1000000 in
set_option maxRecDepth 100000 in
theorem removeRowS {α : Type} [Inhabited α] [DecidableEq α] {lt : α → α → Prop} [DecidableRel lt] (o : STO lt) (pv : Value) {xv : α → Value} {ok : α → List α → Prop} {R : World → List α → Prop} {F : World → World → Prop} (M : Thing 46 81 82 83 84 lt pv xv ok R F) (w : World) (l : List α) (i : Nat) (h : R w l) (h0 : i < l.length) (hb : l.length < 1099511627776) (hh : Hp lt l l.length) :
    Calls Try.prog 45 #[.iface 100 pv, .int .i64 (i : Int)] w fun e w' => e = .returned (xv (pl l i)) ∧ (∃ l', R w' l' ∧ Hp lt l' l'.length ∧ (l' ++ [pl l i]).Perm l) ∧ F w w' := by
  have H1 := hid_of (M.len w l h)
  have HM := hid_of M
  obtain ⟨n, HN⟩ : ∃ n, Hid (l.length = n + 1) := ⟨l.length - 1, by have : l.length = l.length - 1 + 1 := (by omega); exact this⟩
  have hn : n < 1099511627776 := by have := HN.out; omega
  have hin : i ≤ n := by have := HN.out; omega
  have HSw := hid_of (fun W (hW : R W l) => M.moves.swap W l i n hW h0 (by have := HN.out; omega))
  have HDn := hid_of (fun W (hW : R W (swp l i n)) (h1 : i < n) => downRowS o pv M.moves W (swp l i n) n i hW (by rw [swp_len, HN.out]; omega) (by rw [swp_len]; omega) h1 (by have := brought o hh (i := i) (by rw [HN.out]; omega); rw [HN.out] at this; exact this))
  have HUp := hid_of (fun W (hW : R W (swp l i n)) (h1 : i < n) (hu : Up lt (swp l i n) n i) => upRowS o pv M.moves W (swp l i n) n i hW (by rw [swp_len, HN.out]; omega) (by rw [swp_len]; omega) h1 hu)
  have HQ := hid_of (fun (l' : List α) (h1 : l'.Perm (swp l i n)) (h2 : pl l' n = pl (swp l i n) n) => (show l'.length = n + 1 ∧ pl l' (l'.length - 1) = pl l i ∧ (l'.take (l'.length - 1) ++ [pl l i]).Perm l from by
    have e1 : l'.length = n + 1 := by rw [h1.length_eq, swp_len]; exact HN.out
    have e2 : pl l' n = pl l i := by rw [h2, swp_at h0 (by have := HN.out; omega), if_pos rfl]
    refine ⟨e1, by rw [e1]; exact e2, ?_⟩
    exact left_perm (by omega) (h1.trans (swp_perm h0 (by have := HN.out; omega))) (by rw [HN.out]; exact e2)))
  rw [HN.out] at H1
  have e0 : ((n + 1 : Nat) : Int) = (n : Int) + 1 := by omega
  rw [e0] at H1
  have HB := hid_of hb
  have HH := hid_of hh
  clear M o h hh hb e0
  go_enter Try.func45, Try.ntmps45
  go_wp2_with fail
  refine H1.out.mono ?_
  rintro e w1 ⟨rfl, r1, f1⟩
  have F1 := hid_of f1
  by_cases hn0 : n = i
  · subst hn0
    have es : swp l n n = l := swp_self l n h0
    have HP0 := HQ.out l (by rw [es]) (by rw [es])
    have H3 := hid_of (HM.out.pop w1 _ r1 (by rw [HP0.1]; omega))
    rw [HP0.2.1] at H3
    have HP := hid_of HP0
    clear HP0 r1 f1 es
    go_wp2_with fail
    refine H3.out.mono ?_
    rintro e w4 ⟨rfl, r4, f4⟩
    have HE := hid_of (And.intro r4 (HM.out.moves.trans _ _ _ F1.out f4))
    clear r4 f4
    go_wp2_with fail
    go_ret
    refine ⟨rfl, ⟨_, HE.out.1, ?_, HP.out.2.2⟩, HE.out.2⟩
    have q := HP.out.1
    rw [List.length_take, q, show min (n + 1 - 1) (n + 1) = n by omega, show n + 1 - 1 = n by omega]
    exact hp_take (fun k hk hkn => HH.out k hk (by omega))
  · have hne : ¬ (n : Int) = (i : Int) := by omega
    have hlt : i < n := by omega
    have H2 := hid_of (HSw.out w1 r1)
    clear r1 f1
    go_wp2_with fail
    refine H2.out.mono ?_
    rintro e w2 ⟨rfl, r2, f2⟩
    have F2 := hid_of (HM.out.moves.trans _ _ _ F1.out f2)
    have H3 := hid_of (HDn.out w2 r2 hlt)
    clear r2 f2
    go_wp2_with fail
    refine H3.out.mono ?_
    rintro e w3 ⟨b, l', rfl, r3, hd, f3⟩
    have F3 := hid_of (HM.out.moves.trans _ _ _ F2.out f3)
    cases b with
    | true =>
      have HP0 := HQ.out l' hd.1 (hd.2.1 n (Nat.le_refl _))
      have H4 := hid_of (HM.out.pop w3 _ r3 (by rw [HP0.1]; omega))
      rw [HP0.2.1] at H4
      have HP := hid_of HP0
      have HHp : Hid (Hp lt l' n) := hd.2.2.1 rfl
      clear HP0 hd r3 f3
      go_wp2_with fail
      refine H4.out.mono ?_
      rintro e w4 ⟨rfl, r4, f4⟩
      have HE := hid_of (And.intro r4 (HM.out.moves.trans _ _ _ F3.out f4))
      clear r4 f4
      go_wp2_with fail
      go_ret
      refine ⟨rfl, ⟨_, HE.out.1, ?_, HP.out.2.2⟩, HE.out.2⟩
      have q := HP.out.1
      rw [List.length_take, q, show min (n + 1 - 1) (n + 1) = n by omega, show n + 1 - 1 = n by omega]
      exact hp_take HHp.out
    | false =>
      obtain ⟨q1, q2⟩ := hd.2.2.2 rfl
      rw [q1] at r3
      have H5 := hid_of (HUp.out w3 r3 hlt q2)
      clear hd r3 f3 q1 q2
      go_wp2_with fail
      refine H5.out.mono ?_
      rintro e w5 ⟨rfl, ⟨l2, r5, hw⟩, f5⟩
      have F5 := hid_of (HM.out.moves.trans _ _ _ F3.out f5)
      have HP0 := HQ.out l2 hw.2.1 (hw.2.2 n (Nat.le_refl _))
      have H4 := hid_of (HM.out.pop w5 _ r5 (by rw [HP0.1]; omega))
      rw [HP0.2.1] at H4
      have HP := hid_of HP0
      have HHp : Hid (Hp lt l2 n) := hw.1
      clear HP0 hw r5 f5
      go_wp2_with fail
      refine H4.out.mono ?_
      rintro e w4 ⟨rfl, r4, f4⟩
      have HE := hid_of (And.intro r4 (HM.out.moves.trans _ _ _ F5.out f4))
      clear r4 f4
      go_wp2_with fail
      go_ret
      refine ⟨rfl, ⟨_, HE.out.1, ?_, HP.out.2.2⟩, HE.out.2⟩
      have q := HP.out.1
      rw [List.length_take, q, show min (n + 1 - 1) (n + 1) = n by omega, show n + 1 - 1 = n by omega]
      exact hp_take HHp.out
end Go.Proofs.Ytiaggddpoddbcaa.Heap
