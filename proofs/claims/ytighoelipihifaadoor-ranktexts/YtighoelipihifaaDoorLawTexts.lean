/- The law RankTexts. -/
import Derived.Test.YtighoelipihifaaDoorTexts2
import Derived.Test.YtighoelipihifaaDoorEqB
namespace Go.Proofs.YtighoelipihifaaDoor.LawTexts
open Go.RowKit Go.Maps Go.Sort
open Go.Proofs.YtighoelipihifaaDoor.RankMath
open Go.Proofs.YtighoelipihifaaDoor.RankMath2
open Go.Proofs.YtighoelipihifaaDoor.RankMath3
open Go.Proofs.YtighoelipihifaaDoor.Base
open Go.Proofs.YtighoelipihifaaDoor.Rank1
open Go.Proofs.YtighoelipihifaaDoor.Sure
open Go.Proofs.YtighoelipihifaaDoor.Texts
open Go.Proofs.YtighoelipihifaaDoor.Texts2
open Go.Proofs.YtighoelipihifaaDoor.TextMath
open Go.Proofs.YtighoelipihifaaDoor.Parse (Has)
set_option linter.unusedVariables false

theorem tl_eq (s : ByteArray) : s.toList = s.data.toList := ByteArray.toList_eq s
theorem ne_of {s : ByteArray} {l : List UInt8} (h : s ≠ ⟨l.toArray⟩) : (s.toList == l) = false := by
  rw [beq_eq_false_iff_ne]
  intro q
  rw [tl_eq] at q
  apply h
  apply ByteArray.ext
  rw [← q]
theorem ext_size (s : ByteArray) : (s.extract 1 s.size).size ≤ s.size := by
  rw [ByteArray.size_extract]; omega
theorem par_e {l : List UInt8} {n e : Int} (h : Parsed l n e) : e = 0 ∨ e = 10 := by
  rcases h with ⟨_, h⟩ | ⟨_, _, h⟩
  · exact .inl h
  · exact .inr h
def Both (f g : Nat) (s : ByteArray) : Prop := ∃ i o c t e, (∀ w, Has w → Calls Tryd.prog f #[.string s] w fun z w' => z = outB i o c t e ∧ Below w.heap.size w w') ∧ (∀ w, Calls Tryd.prog g #[.string s] w fun z w' => z = outB i o c t e ∧ Below w.heap.size w w')
theorem ref_hid (t : ByteArray) (n e : Int) (ht : t.size ≤ 140737488351232) (HP : Parsed t.data.toList n e) (w : World) : Hid (∀ V, Below w.heap.size w V → Calls Tryd.prog 22 #[.string t] V fun x w' => x = .returned (.tuple #[.int .i64 n, .int .i64 e]) ∧ Below V.heap.size V w') :=
  hid_of fun V _ => (RefParse.rparse_any t V n e ht HP).mono fun x w' h => ⟨h.1, by rw [h.2]; exact Below.refl _ V⟩
theorem cod_hid (t : ByteArray) (n e : Int) (ht : t.size ≤ 140737488351232) (HP : Parsed t.data.toList n e) (w : World) (hh : Has w) : Hid (∀ V, Below w.heap.size w V → Calls Tryd.prog 20 #[.string t] V fun x w' => x = .returned (.tuple #[.int .i64 n, .int .i64 e]) ∧ Below V.heap.size V w') :=
  hid_of fun V hV => Parse.parse_any t V n e ht HP (hh.later hV)
theorem score_both (s : ByteArray) (hs : s.size ≤ 140737488351232) : Both 5 6 s := by
  by_cases k1 : s = ⟨#[45, 105, 110, 102]⟩
  · subst k1; exact ⟨_, _, _, _, _, fun w _ => cs_minf w, fun w => rs_minf w⟩
  by_cases k2 : s = ⟨#[43, 105, 110, 102]⟩
  · subst k2; exact ⟨_, _, _, _, _, fun w _ => cs_pinf w, fun w => rs_pinf w⟩
  by_cases k3 : s = ⟨#[105, 110, 102]⟩
  · subst k3; exact ⟨_, _, _, _, _, fun w _ => cs_inf w, fun w => rs_inf w⟩
  by_cases k4 : s = ⟨#[]⟩
  · subst k4
    obtain ⟨n, e, HP⟩ := Parse.parsed_ex ([] : List UInt8)
    have hz := RefParse.none_of HP (RefParse.no_plain (.inl (by simp)) (fun q => q.1.1 rfl))
    rw [hz.1, hz.2] at HP
    exact ⟨_, _, _, _, _, fun w _ => cs_none w, fun w => rs_none w (ref_hid _ 0 10 hs HP w)⟩
  have h0 : 0 < s.size := by
    rcases Nat.eq_zero_or_pos s.size with h | h
    · exfalso; apply k4
      apply ByteArray.ext
      exact Array.toList_inj.1 (List.eq_nil_of_length_eq_zero (by rw [RefParse.len_eq]; exact h))
    · exact h
  have n1 := ne_of (l := [45, 105, 110, 102]) k1
  have n2 := ne_of (l := [43, 105, 110, 102]) k2
  have n3 := ne_of (l := [105, 110, 102]) k3
  have n4 := ne_of (l := []) k4
  cases h40 : ((s[0].toNat : Int) == 40)
  · obtain ⟨n, e, HP⟩ := Parse.parsed_ex s.data.toList
    rcases par_e HP with rfl | rfl
    · refine ⟨0, decide (May n) && false, if decide (May n) then n else 0, ⟨#[]⟩, if decide (May n) then 0 else 121, fun w hh => (cs_false_may s w n h0 n1 n2 n3 n4 h40 (cod_hid _ _ _ hs HP w hh)).mono fun z w' h => ⟨h.1.trans ?_, h.2⟩, fun w => (rs_false_may s w n h0 n1 n2 n3 n4 h40 (ref_hid _ _ _ hs HP w)).mono fun z w' h => ⟨h.1.trans ?_, h.2⟩⟩ <;> cases decide (May n) <;> rfl
    · exact ⟨_, _, _, _, _, fun w hh => cs_false_err s w n h0 n1 n2 n3 n4 h40 (cod_hid _ _ _ hs HP w hh), fun w => rs_false_err s w n h0 n1 n2 n3 n4 h40 (ref_hid _ _ _ hs HP w)⟩
  · have hs' : (s.extract 1 s.size).size ≤ 140737488351232 := Nat.le_trans (ext_size s) hs
    obtain ⟨n, e, HP⟩ := Parse.parsed_ex (s.extract 1 s.size).data.toList
    rcases par_e HP with rfl | rfl
    · refine ⟨0, decide (May n), if decide (May n) then n else 0, ⟨#[]⟩, if decide (May n) then 0 else 121, fun w hh => (cs_true_may s w n h0 n1 n2 n3 n4 h40 (cod_hid _ _ _ hs' HP w hh)).mono fun z w' h => ⟨h.1.trans ?_, h.2⟩, fun w => (rs_true_may s w n h0 n1 n2 n3 n4 h40 (ref_hid _ _ _ hs' HP w)).mono fun z w' h => ⟨h.1.trans ?_, h.2⟩⟩ <;> cases decide (May n) <;> rfl
    · exact ⟨_, _, _, _, _, fun w hh => cs_true_err s w n h0 n1 n2 n3 n4 h40 (cod_hid _ _ _ hs' HP w hh), fun w => rs_true_err s w n h0 n1 n2 n3 n4 h40 (ref_hid _ _ _ hs' HP w)⟩
theorem name_both (s : ByteArray) : Both 7 8 s := by
  by_cases k1 : s = ⟨#[45]⟩
  · subst k1; exact ⟨_, _, _, _, _, fun w _ => cn_m w, fun w => rn_m w⟩
  by_cases k2 : s = ⟨#[43]⟩
  · subst k2; exact ⟨_, _, _, _, _, fun w _ => cn_p w, fun w => rn_p w⟩
  by_cases k4 : s = ⟨#[]⟩
  · subst k4; exact ⟨_, _, _, _, _, fun w _ => cn_none w, fun w => rn_none w⟩
  have h0 : 0 < s.size := by
    rcases Nat.eq_zero_or_pos s.size with h | h
    · exfalso; apply k4
      apply ByteArray.ext
      exact Array.toList_inj.1 (List.eq_nil_of_length_eq_zero (by rw [RefParse.len_eq]; exact h))
    · exact h
  have n1 := ne_of (l := [45]) k1
  have n2 := ne_of (l := [43]) k2
  have n4 := ne_of (l := []) k4
  cases h91 : ((s[0].toNat : Int) == 91) <;> cases h40 : ((s[0].toNat : Int) == 40)
  · exact ⟨_, _, _, _, _, fun w _ => cn_no s w _ rfl h0 n1 n2 n4 h91 h40, fun w => rn_no s w _ rfl h0 n1 n2 n4 h91 h40⟩
  · exact ⟨_, _, _, _, _, fun w _ => cn_ro s w _ rfl h0 n1 n2 n4 h91 h40, fun w => rn_ro s w _ rfl h0 n1 n2 n4 h91 h40⟩
  · exact ⟨_, _, _, _, _, fun w _ => cn_sq s w _ rfl h0 n1 n2 n4 h91 h40, fun w => rn_sq s w _ rfl h0 n1 n2 n4 h91 h40⟩
  · exfalso
    have a : (s[0].toNat : Int) = 91 := by simpa using h91
    have b : (s[0].toNat : Int) = 40 := by simpa using h40
    omega
abbrev oB (i : Int) (o : Bool) (c : Int) (t : ByteArray) : Obj := .cells #[.int .i64 i, .bool o, .int .i64 c, .string t] 23
/- a box that is laid, and what it holds later -/
theorem laid_box {w V : World} {i : Int} {o : Bool} {c : Int} {t : ByteArray} (hV : V = w.alloc (oB i o c t)) (W : World) (hW : Below V.heap.size V W) : W.cell? ⟨w.heap.size, 0, none⟩ = some (.int .i64 i) ∧ W.cell? ⟨w.heap.size, 1, none⟩ = some (.bool o) ∧ W.cell? ⟨w.heap.size, 2, none⟩ = some (.int .i64 c) ∧ W.cell? ⟨w.heap.size, 3, none⟩ = some (.string t) := by
  have hx : W.heap[w.heap.size]? = some (.cells #[.int .i64 i, .bool o, .int .i64 c, .string t] 23 (0, 0)) := (hW.block _ (by rw [hV]; simp)).trans (by rw [hV]; exact heap_alloc_new w _)
  exact ⟨Lib.cell_of_heap hx 0, Lib.cell_of_heap hx 1, Lib.cell_of_heap hx 2, Lib.cell_of_heap hx 3⟩
theorem lt_box {w V : World} {i : Int} {o : Bool} {c : Int} {t : ByteArray} (hV : V = w.alloc (oB i o c t)) (W : World) (hW : Below V.heap.size V W) : w.heap.size < W.heap.size := by
  have hx : W.heap[w.heap.size]? = some (.cells #[.int .i64 i, .bool o, .int .i64 c, .string t] 23 (0, 0)) := (hW.block _ (by rw [hV]; simp)).trans (by rw [hV]; exact heap_alloc_new w _)
  exact lt_of hx
set_option maxHeartbeats 4000000 in
set_option maxRecDepth 100000 in
theorem texts_call (s : ByteArray) (w : World) (hs : s.size ≤ 140737488351232) (hh : Has w) : Calls Tryd.prog 3 #[.string s] w fun e w' => e = .returned (.bool true) ∧ Below w.heap.size w w' := by
  obtain ⟨i, o, c, t, e, hc, hr⟩ := score_both s hs
  obtain ⟨i2, o2, c2, t2, e2, hc2, hr2⟩ := name_both s
  have q1 := EqB.eqRun i o c t
  have q2 := EqB.eqRun i2 o2 c2 t2
  have HH := hid_of hh
  have H1 := hid_of (hc w hh)
  have G2 := hid_of hr
  have G3 := hid_of hc2
  have G4 := hid_of hr2
  unfold outB at *
  clear hc hr hc2 hr2 hh
  go_enter Tryd.func3, Tryd.ntmps3
  go_wp2_with fail
  refine H1.out.mono ?_
  rintro z w1 hw1
  obtain ⟨rfl, b1⟩ := hw1
  obtain ⟨V1, hV1⟩ : ∃ V, V = w1.alloc (oB i o c t) := ⟨_, rfl⟩
  have B1 := hid_of (Base.bel b1 (show Below w1.heap.size w1 V1 by rw [hV1]; exact bnew w1 _) (Nat.le_refl _))
  have HV1 := hid_of hV1
  have H2 := hid_of (G2.out V1)
  clear b1 hV1 H1 G2
  go_wp2_with fail
  rw [← HV1.out]
  refine H2.out.mono ?_
  rintro z w2 hw2
  obtain ⟨rfl, b2⟩ := hw2
  obtain ⟨V2, hV2⟩ : ∃ V, V = w2.alloc (oB i o c t) := ⟨_, rfl⟩
  have C12 := hid_of (Base.bel b2 (show Below w2.heap.size w2 V2 by rw [hV2]; exact bnew w2 _) (Nat.le_refl _))
  have HV2 := hid_of hV2
  have H3 := hid_of (G3.out V2 (HH.out.later (Base.bel B1.out C12.out (Nat.le_refl _))))
  clear b2 hV2 H2 G3
  go_wp2_with fail
  rw [← HV2.out]
  refine H3.out.mono ?_
  rintro z w3 hw3
  obtain ⟨rfl, b3⟩ := hw3
  obtain ⟨V3, hV3⟩ : ∃ V, V = w3.alloc (oB i2 o2 c2 t2) := ⟨_, rfl⟩
  have C23 := hid_of (Base.bel b3 (show Below w3.heap.size w3 V3 by rw [hV3]; exact bnew w3 _) (Nat.le_refl _))
  have HV3 := hid_of hV3
  have H4 := hid_of (G4.out V3)
  clear b3 hV3 H3 G4
  go_wp2_with fail
  rw [← HV3.out]
  refine H4.out.mono ?_
  rintro z w4 hw4
  obtain ⟨rfl, b4⟩ := hw4
  obtain ⟨V4, hV4⟩ : ∃ V, V = w4.alloc (oB i2 o2 c2 t2) := ⟨_, rfl⟩
  have D3 := hid_of b4
  have D2 := hid_of (Base.bel C23.out b4 (Nat.le_refl _))
  have D1 := hid_of (Base.bel C12.out D2.out (Nat.le_refl _))
  have B4 := hid_of (Base.bel (Base.bel B1.out D1.out (Nat.le_refl _)) (show Below w4.heap.size w4 V4 by rw [hV4]; exact bnew w4 _) (Nat.le_refl _))
  have HV4 := hid_of hV4
  have H5 := hid_of (sure_call V4 (HH.out.later B4.out))
  obtain ⟨x0, x1, x2, x3⟩ := laid_box HV1.out w4 D1.out
  obtain ⟨y0, y1, y2, y3⟩ := laid_box HV2.out w4 D2.out
  obtain ⟨z0, z1, z2, z3⟩ := laid_box HV3.out w4 D3.out
  have l1 : w1.heap.size < w4.heap.size := lt_box HV1.out w4 D1.out
  have l2 : w2.heap.size < w4.heap.size := lt_box HV2.out w4 D2.out
  have l3 : w3.heap.size < w4.heap.size := lt_box HV3.out w4 D3.out
  clear b4 hV4 H4 C12 C23 D1 D2 D3
  go_wp2_with fail
  rw [← HV4.out]
  refine H5.out.mono ?_
  rintro z w5 hw5
  obtain ⟨rfl, b5⟩ := hw5
  have B5 := hid_of (Base.bel B4.out b5 (Nat.le_refl _))
  clear b5
  go_wp2_with fail
  go_ret
  exact ⟨rfl, B5.out⟩
end Go.Proofs.YtighoelipihifaaDoor.LawTexts
