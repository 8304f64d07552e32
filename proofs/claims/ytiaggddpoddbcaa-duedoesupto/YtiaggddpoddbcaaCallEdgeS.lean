/- container/heap's own calls, moving EdgeS. -/
import Derived.Test.YtiaggddpoddbcaaHeap2
import Derived.Test.YtiaggddpoddbcaaHeapEdgeS
import Derived.OwnWalk
namespace Go.Proofs.Ytiaggddpoddbcaa.Heap
open Go.RowKit
open Go.Proofs.Ytiaggddpoddbcaa.HeapMath
set_option linter.unusedVariables false
set_option linter.unusedSimpArgs false
set_option maxHeartbeats 1000000 in
set_option maxRecDepth 100000 in
theorem pushEdgeS {α : Type} [Inhabited α] [DecidableEq α] {lt : α → α → Prop} [DecidableRel lt] (o : STO lt) (pv : Value) {xv : α → Value} {ok : α → List α → Prop} {R : World → List α → Prop} {F : World → World → Prop} (M : Thing 56 89 90 91 92 lt pv xv ok R F) (w : World) (l : List α) (a : α) (h : R w l) (ha : ok a l) (hb : l.length < 1099511627776) (hh : Hp lt l l.length) :
    Calls Try.prog 35 #[.iface 114 pv, xv a] w fun e w' => e = .returned (.tuple #[]) ∧ (∃ l', R w' l' ∧ Hp lt l' l'.length ∧ l'.Perm (l ++ [a])) ∧ F w w' := by
  have H1 := hid_of (M.push w l a h ha)
  have HM := hid_of M
  have HU := hid_of (fun W (hW : R W (l ++ [a])) => upEdgeS o pv M.moves W (l ++ [a]) (l.length + 1) l.length hW (by simp) (by simp; omega) (by omega) (up_new hh))
  obtain ⟨n, HN⟩ : ∃ n, Hid (n = l.length) := ⟨_, hid_of rfl⟩
  have hn : n < 1099511627776 := by rw [HN.out]; exact hb
  generalize xv a = X at *
  clear M o h ha hh hb
  go_enter Try.func35, Try.ntmps35
  go_wp2_with fail
  refine H1.out.mono ?_
  rintro e w1 ⟨rfl, r1, f1⟩
  have H2 := hid_of (HM.out.len w1 _ r1)
  rw [show ((l ++ [a]).length : Int) = (n : Int) + 1 by rw [HN.out]; simp] at H2
  have F1 := hid_of f1
  clear r1 f1
  go_wp2_with fail
  refine H2.out.mono ?_
  rintro e w2 ⟨rfl, r2, f2⟩
  have H3 := hid_of (HU.out w2 r2)
  rw [← HN.out] at H3
  have F2 := hid_of (HM.out.moves.trans _ _ _ F1.out f2)
  clear r2 f2
  go_wp2_with fail
  refine H3.out.mono ?_
  rintro e w3 ⟨rfl, ⟨l', r3, hw⟩, f3⟩
  have HE := hid_of (And.intro r3 (And.intro hw (HM.out.moves.trans _ _ _ F2.out f3)))
  clear r3 hw f3
  go_wp2_with fail
  go_end0
  refine ⟨rfl, ⟨l', HE.out.1, ?_, HE.out.2.1.2.1⟩, HE.out.2.2⟩
  have := HE.out.2.1.1
  rw [HE.out.2.1.2.1.length_eq]
  rw [show (l ++ [a]).length = n + 1 by rw [HN.out]; simp]
  exact this
set_option maxHeartbeats 1000000 in
set_option maxRecDepth 100000 in
/-- down of nothing -/
theorem down0EdgeS (pv : Value) (w : World) : Calls Try.prog 47 #[.iface 114 pv, .int .i64 0, .int .i64 0] w fun e w' => e = .returned (.bool false) ∧ w' = w := by
  go_enter Try.func47, Try.ntmps47
  go_wp2_with fail
  go_loopg [7] 0 (fun g s7 wx => s7 = .int .i64 0 ∧ wx = w)
  case atStart => exact ⟨rfl, rfl⟩
  case round =>
    obtain ⟨rfl, rfl⟩ := hrel
    go_wp2_with fail
    go_ret
    exact ⟨rfl, rfl⟩
set_option maxHeartbeats 1000000 in
set_option maxRecDepth 100000 in
theorem popEdgeS {α : Type} [Inhabited α] [DecidableEq α] {lt : α → α → Prop} [DecidableRel lt] (o : STO lt) (pv : Value) {xv : α → Value} {ok : α → List α → Prop} {R : World → List α → Prop} {F : World → World → Prop} (M : Thing 56 89 90 91 92 lt pv xv ok R F) (w : World) (l : List α) (h : R w l) (h0 : 0 < l.length) (hb : l.length < 1099511627776) (hh : Hp lt l l.length) :
    Calls Try.prog 53 #[.iface 114 pv] w fun e w' => e = .returned (xv (pl l 0)) ∧ (∃ l', R w' l' ∧ Hp lt l' l'.length ∧ (l' ++ [pl l 0]).Perm l) ∧ F w w' := by
  have H1 := hid_of (M.len w l h)
  have HM := hid_of M
  obtain ⟨n, HN⟩ : ∃ n, Hid (l.length = n + 1) := ⟨l.length - 1, by have : l.length = l.length - 1 + 1 := (by omega); exact this⟩
  have hn : n < 1099511627776 := by have := HN.out; omega
  have HSw := hid_of (fun W (hW : R W l) => M.moves.swap W l 0 n hW h0 (by have := HN.out; omega))
  have HDn := hid_of (fun W (hW : R W (swp l 0 n)) (h1 : 0 < n) => downEdgeS o pv M.moves W (swp l 0 n) n 0 hW (by rw [swp_len, HN.out]; omega) (by rw [swp_len]; omega) h1 (by have := brought o hh (i := 0) (by rw [HN.out]; omega); rw [HN.out] at this; exact this))
  have HQ := hid_of (fun (l' : List α) (h1 : l'.Perm (swp l 0 n)) (h2 : pl l' n = pl (swp l 0 n) n) => (show l'.length = n + 1 ∧ pl l' (l'.length - 1) = pl l 0 ∧ (l'.take (l'.length - 1) ++ [pl l 0]).Perm l from by
    have e1 : l'.length = n + 1 := by rw [h1.length_eq, swp_len]; exact HN.out
    have e2 : pl l' n = pl l 0 := by rw [h2, swp_at h0 (by have := HN.out; omega), if_pos rfl]
    refine ⟨e1, by rw [e1]; exact e2, ?_⟩
    exact left_perm h0 (h1.trans (swp_perm h0 (by have := HN.out; omega))) (by rw [HN.out]; exact e2)))
  rw [HN.out] at H1
  have e0 : ((n + 1 : Nat) : Int) = (n : Int) + 1 := by omega
  rw [e0] at H1
  have HB := hid_of hb
  have HH := hid_of hh
  clear M o h hh hb e0
  go_enter Try.func53, Try.ntmps53
  go_wp2_with fail
  refine H1.out.mono ?_
  rintro e w1 ⟨rfl, r1, f1⟩
  have H2 := hid_of (HSw.out w1 r1)
  have F1 := hid_of f1
  clear r1 f1
  go_wp2_with fail
  refine H2.out.mono ?_
  rintro e w2 ⟨rfl, r2, f2⟩
  have R2 := hid_of r2
  have F2 := hid_of (HM.out.moves.trans _ _ _ F1.out f2)
  clear r2 f2
  by_cases hn0 : n = 0
  · subst hn0
    have HP0 := HQ.out (swp l 0 0) (List.Perm.refl _) rfl
    have H3 := hid_of (HM.out.pop w2 _ R2.out (by rw [HP0.1]; omega))
    rw [HP0.2.1] at H3
    have HP := hid_of HP0
    clear HP0
    go_wp2_with fail
    refine (down0EdgeS pv w2).mono ?_
    rintro e w3 ⟨rfl, rfl⟩
    go_wp2_with fail
    refine H3.out.mono ?_
    rintro e w4 ⟨rfl, r4, f4⟩
    have HE := hid_of (And.intro r4 (HM.out.moves.trans _ _ _ F2.out f4))
    clear r4 f4
    go_wp2_with fail
    go_ret
    refine ⟨rfl, ⟨_, HE.out.1, ?_, HP.out.2.2⟩, HE.out.2⟩
    intro k hk hkn
    have := HP.out.1
    rw [List.length_take, this] at hkn
    omega
  · have H3 := hid_of (HDn.out w2 R2.out (by omega))
    go_wp2_with fail
    refine H3.out.mono ?_
    rintro e w3 ⟨b, l', rfl, r3, hd, f3⟩
    have HP0 := HQ.out l' hd.1 (hd.2.1 n (Nat.le_refl _))
    have H4 := hid_of (HM.out.pop w3 _ r3 (by rw [HP0.1]; omega))
    rw [HP0.2.1] at H4
    have HP := hid_of HP0
    have HHp : Hid (Hp lt l' n) := by
      cases b with
      | true => exact hd.2.2.1 rfl
      | false =>
        obtain ⟨q1, q2⟩ := hd.2.2.2 rfl
        rw [q1]
        exact fun k hk hkn => q2.1 k hk hkn (by omega)
    have F3 := hid_of (HM.out.moves.trans _ _ _ F2.out f3)
    clear HP0 hd r3 f3
    go_wp2_with fail
    refine H4.out.mono ?_
    rintro e w4 ⟨rfl, r4, f4⟩
    have HE := hid_of (And.intro r4 (HM.out.moves.trans _ _ _ F3.out f4))
    clear r4 f4
    go_wp2_with fail
    go_ret
    refine ⟨rfl, ⟨_, HE.out.1, ?_, HP.out.2.2⟩, HE.out.2⟩
    have q := HP.out.1
    rw [List.length_take, q, show min (n + 1 - 1) (n + 1) = n by omega, show n + 1 - 1 = n by omega]
    exact hp_take HHp.out
end Go.Proofs.Ytiaggddpoddbcaa.Heap
