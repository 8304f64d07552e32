/- The document's Check. The document's word on whether an effect may be. The document's take: an effect. -/
import Derived.Test.YtpnigkjmofhmbabGreatRRnkM
import Derived.Test.YtpnigkjmofhmbabGreatRCheckK3M
import Derived.Test.YtpnigkjmofhmbabGreatEWriteM
import Derived.Test.YtpnigkjmofhmbabGreatRSame
import Derived.Test.YtpnigkjmofhmbabGreatDFixM
import Derived.Deep.RegionHeld3
section
namespace Go.Proofs.YtpnigkjmofhmbabGreat.RCheck
open Go.RowKit Go.Maps
open Go.Proofs.YtpnigkjmofhmbabGreat.SetMath
open Go.Proofs.YtpnigkjmofhmbabGreat.ValueMath
open Go.Proofs.YtpnigkjmofhmbabGreat.Base
open Go.Proofs.YtpnigkjmofhmbabGreat.Vals
open Go.Proofs.YtpnigkjmofhmbabGreat.Check0
open Go.Proofs.YtpnigkjmofhmbabGreat.May
open Go.Proofs.YtpnigkjmofhmbabGreat.MayR
open Go.Proofs.YtpnigkjmofhmbabGreat.RChk
open Go.Proofs.YtpnigkjmofhmbabGreat.RRnk
open Go.Proofs.YtpnigkjmofhmbabGreat.RCheck0
set_option linter.unusedVariables false
set_option linter.unusedSimpArgs false

theorem rc_chk {x : Vl} (hk : 1 ≤ x.kind ∧ x.kind ≤ 5) : rcB x.kind (!tOk x.text) (x.text != []) (x.list != []) (x.fields != []) (x.ranked != []) (emp x) (decide (Ris x.list)) (fAll x.fields) (rkd x.ranked) (x.list.all tOk) = chk x := by
  obtain ⟨k, t, l, f, r⟩ := x
  simp only at hk
  have hS : (S ([] : List Bs)).length = 0 := by rw [S_nil]; rfl
  have f0 : fAll [] = true := rfl
  have r0 : rkd [] = true := by unfold rkd rAll enames; rw [List.map_nil, S_nil]; rfl
  have hf : ∀ (h : f ≠ []), fAll f = hashOk f := fun h => fAll_hash (List.length_pos_iff.2 h)
  have hr : ∀ (h : r ≠ []), rkd r = rankOk r := fun h => rkd_rank (List.length_pos_iff.2 h)
  have hh0 : hashOk [] = false := rfl
  have hr0 : rankOk [] = false := by decide
  have t0 : tOk [] = true := rfl
  rw [Check.chk_k (by simp only; exact hk)]
  unfold rcB stray mayBe emp setOk lOk
  simp only
  rcases (show k = 1 ∨ k = 2 ∨ k = 3 ∨ k = 4 ∨ k = 5 by omega) with rfl | rfl | rfl | rfl | rfl
  · by_cases hl : l = [] <;> by_cases hff : f = [] <;> by_cases hrr : r = [] <;> cases ht : tOk t <;> by_cases htt : t = [] <;> simp_all
  · by_cases hl : l = [] <;> by_cases hff : f = [] <;> by_cases hrr : r = [] <;> cases ht : tOk t <;> by_cases htt : t = [] <;> cases ha : l.all tOk <;> simp_all
  · by_cases hl : l = [] <;> by_cases hff : f = [] <;> by_cases hrr : r = [] <;> cases ht : tOk t <;> by_cases htt : t = [] <;> cases ha : hashOk f <;> simp_all
  · by_cases hl : l = [] <;> by_cases hff : f = [] <;> by_cases hrr : r = [] <;> cases ht : tOk t <;> by_cases htt : t = [] <;> cases ha : l.all tOk <;> by_cases hri : Ris l <;> simp_all
  · by_cases hl : l = [] <;> by_cases hff : f = [] <;> by_cases hrr : r = [] <;> cases ht : tOk t <;> by_cases htt : t = [] <;> cases ha : rankOk r <;> simp_all
set_option maxHeartbeats 2000000 in
set_option maxRecDepth 100000 in
theorem rraw0 (k : Int) (hk : k < 1 ∨ 5 < k) (X : ByteArray) (aa ba ca : Option Addr) (an bn cn ac bc cc : Nat) (w : World) :
    Calls Tryz.prog 62 #[.agg #[.int .i64 k, .string X, .slice aa an ac, .slice ba bn bc, .slice ca cn cc]] w fun e w' => e = .returned (.int .i64 130) ∧ Below w.heap.size w w' := by
  by_cases h1 : k < 1
  · go_enter Tryz.func62, Tryz.ntmps62
    go_wp2_with fail
    go_ret
    exact ⟨rfl, FRow.bnew w _⟩
  · have h5 : 5 < k := by omega
    go_enter Tryz.func62, Tryz.ntmps62
    go_wp2_with fail
    go_ret
    exact ⟨rfl, FRow.bnew w _⟩
theorem rcheck_call {w : World} {v : Value} {x : Vl} (h : VA w v x) (hf : Wel x) :
    Calls Tryz.prog 62 #[v] w fun e w' => e = .returned (.int .i64 (chk x)) ∧ Below w.heap.size w w' := by
  obtain ⟨a, b, c, rfl, h1, h2, h3⟩ := h
  obtain ⟨aa, ac, rfl, _, _⟩ := id h1
  obtain ⟨ba, bc, rfl, _, _⟩ := id h2
  obtain ⟨ca, cc, rfl, _, _⟩ := id h3
  by_cases hk : x.kind < 1 ∨ 5 < x.kind
  · have e1 : chk x = 130 := by unfold chk; rw [if_pos hk]
    rw [e1]
    exact rraw0 x.kind hk (mk x.text) aa ba ca _ _ _ ac bc cc w
  · have hl := hf.l
    have hff := hf.f
    unfold FRow.big at hff
    have hk2 : 1 ≤ x.kind ∧ x.kind ≤ 5 := by omega
    rw [← rc_chk hk2]
    have HSL : Hid (∀ W, Below w.heap.size w W → SL TT W (.slice aa x.list.length ac) x.list) := hid_of fun W hW => h1.below hW
    have HEm : Hid (∀ W, Below w.heap.size w W → Calls Tryz.prog 88 #[.agg #[.int .i64 x.kind, .string (mk x.text), .slice aa x.list.length ac, .slice ba (List.length x.fields) bc, .slice ca (List.length x.ranked) cc]] W fun e w' => e = .returned (.bool (emp x)) ∧ Below W.heap.size W w') := hid_of fun W hW => empty_raw x.kind (mk x.text) aa ba ca _ _ _ ac bc cc W
    have HVa : Hid (∀ W, Below w.heap.size w W → Calls Tryz.prog 89 #[.slice aa x.list.length ac] W fun e w' => e = .returned (.bool (decide (Ris x.list))) ∧ Below W.heap.size W w') := hid_of fun W hW => (Small.rvalid_call (h1.below hW) (by omega)).mono fun e w' ⟨q1, m, q2⟩ => ⟨q1, by rw [q2]; exact bel_drewN _ _⟩
    have HFo : Hid (∀ W, Below w.heap.size w W → Calls Tryz.prog 90 #[.slice ba (List.length x.fields) bc] W fun e w' => e = .returned (.bool (fAll x.fields)) ∧ Below W.heap.size W w') := hid_of fun W hW => fields_call (h2.below hW) (by omega) hf.fs
    have HRo : Hid (∀ W, Below w.heap.size w W → Calls Tryz.prog 91 #[.slice ca (List.length x.ranked) cc] W fun e w' => e = .returned (.bool (rkd x.ranked)) ∧ Below W.heap.size W w') := hid_of fun W hW => ranked_call (h3.below hW) hf.r24 hf.rs
    have k1 : decide ((1048576 : Int) < ((mk x.text).size : Int)) = !tOk x.text := by unfold tOk; rw [mk_size, Bool.eq_iff_iff]; simp; omega
    have k2 : (mk x.text).toList.isEmpty = !(x.text != []) := by rw [mk_list]; cases x.text <;> rfl
    rcases (show x.kind = 1 ∨ x.kind = 2 ∨ x.kind = 3 ∨ x.kind = 4 ∨ x.kind = 5 by omega) with q | q | q | q | q
    · rw [q] at HEm ⊢
      exact RCheckK1.rraw1 (mk x.text) aa ba ca _ _ _ ac bc cc x.list _ _ _ _ _ _ _ _ _ w (by omega) (hid_of rfl) k1 k2 (by rw [nil_len]; simp) (by rw [nil_len]; simp) (by rw [nil_len]; simp) (by rw [nil_len]) (by rw [nil_len]) (by rw [nil_len]) HSL HEm HVa HFo HRo
    · rw [q] at HEm ⊢
      exact RCheckK2.rraw2 (mk x.text) aa ba ca _ _ _ ac bc cc x.list _ _ _ _ _ _ _ _ _ w (by omega) (hid_of rfl) k1 k2 (by rw [nil_len]; simp) (by rw [nil_len]; simp) (by rw [nil_len]; simp) (by rw [nil_len]) (by rw [nil_len]) (by rw [nil_len]) HSL HEm HVa HFo HRo
    · rw [q] at HEm ⊢
      exact RCheckK3.rraw3 (mk x.text) aa ba ca _ _ _ ac bc cc x.list _ _ _ _ _ _ _ _ _ w (by omega) (hid_of rfl) k1 k2 (by rw [nil_len]; simp) (by rw [nil_len]; simp) (by rw [nil_len]; simp) (by rw [nil_len]) (by rw [nil_len]) (by rw [nil_len]) HSL HEm HVa HFo HRo
    · rw [q] at HEm ⊢
      exact RCheckK4.rraw4 (mk x.text) aa ba ca _ _ _ ac bc cc x.list _ _ _ _ _ _ _ _ _ w (by omega) (hid_of rfl) k1 k2 (by rw [nil_len]; simp) (by rw [nil_len]; simp) (by rw [nil_len]; simp) (by rw [nil_len]) (by rw [nil_len]) (by rw [nil_len]) HSL HEm HVa HFo HRo
    · rw [q] at HEm ⊢
      exact RCheckK5.rraw5 (mk x.text) aa ba ca _ _ _ ac bc cc x.list _ _ _ _ _ _ _ _ _ w (by omega) (hid_of rfl) k1 k2 (by rw [nil_len]; simp) (by rw [nil_len]; simp) (by rw [nil_len]; simp) (by rw [nil_len]) (by rw [nil_len]) (by rw [nil_len]) HSL HEm HVa HFo HRo
end Go.Proofs.YtpnigkjmofhmbabGreat.RCheck
end
section
namespace Go.Proofs.YtpnigkjmofhmbabGreat.FMay
open Go.RowKit Go.Maps
open Go.Proofs.YtpnigkjmofhmbabGreat.ValueMath (Vl chk small sm)
open Go.Proofs.YtpnigkjmofhmbabGreat.Base (mk mk_list mk_size Gr hid_of SL)
open Go.Proofs.YtpnigkjmofhmbabGreat.Turn
open Go.Proofs.YtpnigkjmofhmbabGreat.Vals
open Go.Proofs.YtpnigkjmofhmbabGreat.Check0 (Wel)
open Go.Proofs.YtpnigkjmofhmbabGreat.Dec (zV)
open Go.Proofs.YtpnigkjmofhmbabGreat.SBase
open Go.Proofs.YtpnigkjmofhmbabGreat.SFind (alb)
open Go.Proofs.YtpnigkjmofhmbabGreat.SSet (box8)
open Go.Proofs.YtpnigkjmofhmbabGreat.SPut (vO)
open Go.Proofs.YtpnigkjmofhmbabGreat.EMay
open Go.Proofs.YtpnigkjmofhmbabGreat.EAll
set_option linter.unusedVariables false
set_option linter.unusedSimpArgs false
set_option maxRecDepth 100000 in
theorem zero_call {w : World} {a1 a2 a3 : Option Addr} {n1 c1 n2 c2 n3 c3 : Nat} {T : ByteArray} {kd : Int} {x : Vl} (h : VA w (.agg #[.int .i64 kd, .string T, .slice a1 n1 c1, .slice a2 n2 c2, .slice a3 n3 c3]) x) (hw : Wel x) :
    Calls Tryz.prog 34 #[.agg #[.int .i64 kd, .string T, .slice a1 n1 c1, .slice a2 n2 c2, .slice a3 n3 c3]] w fun e w' => e = .returned (.bool (sm x zV)) ∧ Below w.heap.size w w' := by
  obtain ⟨W, hW⟩ : ∃ W, W = w.alloc (vO kd T (.slice a1 n1 c1) (.slice a2 n2 c2) (.slice a3 n3 c3)) := ⟨_, rfl⟩
  have HB := hid_of (show Below w.heap.size w W by rw [hW]; exact alb _ _)
  have HS := hid_of (RSame.rsame_call (h.below HB.out) (va_zero W) hw.toFit fit_zero)
  have HW := hid_of hW
  clear hW h
  generalize sm x zV = r at *
  go_enter Tryz.func34, Tryz.ntmps34
  go_wp2_with fail
  rw [← HW.out]
  refine HS.out.mono ?_
  rintro e w1 ⟨rfl, hb⟩
  have HB1 := hid_of hb
  clear hb
  go_wp2_with fail
  go_ret
  exact ⟨rfl, HB.out.trans (HB1.out.mono HB.out.size)⟩
def fitE (x : Vl) (d : Int) : Int := if chk x = 0 then (if dueOk d then 0 else 70) else chk x
set_option maxRecDepth 100000 in
theorem fit_call {w : World} {a1 a2 a3 : Option Addr} {n1 c1 n2 c2 n3 c3 : Nat} {T : ByteArray} {kd : Int} {x : Vl} (h : VA w (.agg #[.int .i64 kd, .string T, .slice a1 n1 c1, .slice a2 n2 c2, .slice a3 n3 c3]) x) (hw : Wel x) (d : Int) :
    Calls Tryz.prog 33 #[.agg #[.int .i64 kd, .string T, .slice a1 n1 c1, .slice a2 n2 c2, .slice a3 n3 c3], .int .i64 d] w fun e w' => e = .returned (.int .i64 (fitE x d)) ∧ Below w.heap.size w w' := by
  obtain ⟨W, hW⟩ : ∃ W, W = w.alloc (vO kd T (.slice a1 n1 c1) (.slice a2 n2 c2) (.slice a3 n3 c3)) := ⟨_, rfl⟩
  have HB := hid_of (show Below w.heap.size w W by rw [hW]; exact alb _ _)
  have HS := hid_of (RCheck.rcheck_call (h.below HB.out) hw)
  have HW := hid_of hW
  clear hW h
  unfold fitE dueOk
  generalize chk x = q at *
  by_cases hq : q = 0
  · subst hq
    rw [if_pos rfl]
    by_cases h0 : d < 0
    · rw [decide_eq_false (show ¬ 0 ≤ d by omega), if_neg (by simp)]
      go_enter Tryz.func33, Tryz.ntmps33
      go_wp2_with fail
      rw [← HW.out]
      refine HS.out.mono ?_
      rintro e w1 ⟨rfl, hb⟩
      have HB1 := hid_of hb
      clear hb
      go_wp2_with fail
      go_ret
      exact ⟨rfl, HB.out.trans (HB1.out.mono HB.out.size)⟩
    · rw [decide_eq_true (show 0 ≤ d by omega)]
      by_cases h1 : 9007199254740992 < d
      · rw [decide_eq_false (show ¬ d ≤ 9007199254740992 by omega), if_neg (by simp)]
        go_enter Tryz.func33, Tryz.ntmps33
        go_wp2_with fail
        rw [← HW.out]
        refine HS.out.mono ?_
        rintro e w1 ⟨rfl, hb⟩
        have HB1 := hid_of hb
        clear hb
        go_wp2_with fail
        go_ret
        exact ⟨rfl, HB.out.trans (HB1.out.mono HB.out.size)⟩
      · rw [decide_eq_true (show d ≤ 9007199254740992 by omega), if_pos (by simp)]
        go_enter Tryz.func33, Tryz.ntmps33
        go_wp2_with fail
        rw [← HW.out]
        refine HS.out.mono ?_
        rintro e w1 ⟨rfl, hb⟩
        have HB1 := hid_of hb
        clear hb
        go_wp2_with fail
        go_ret
        exact ⟨rfl, HB.out.trans (HB1.out.mono HB.out.size)⟩
  · rw [if_neg hq]
    have e0 : (q == 0) = false := by simp [hq]
    go_enter Tryz.func33, Tryz.ntmps33
    go_wp2_with fail
    rw [← HW.out]
    refine HS.out.mono ?_
    rintro e w1 ⟨rfl, hb⟩
    have HB1 := hid_of hb
    clear hb
    go_wp2_with fail
    go_ret
    exact ⟨rfl, HB.out.trans (HB1.out.mono HB.out.size)⟩
set_option maxHeartbeats 1000000 in
set_option maxRecDepth 100000 in
theorem may1 {w : World} {a1 a2 a3 : Option Addr} {n1 c1 n2 c2 n3 c3 : Nat} {T : ByteArray} {k2 : Int} (key : Bs) (x : Vl) (d : Int) (h : VA w (.agg #[.int .i64 k2, .string T, .slice a1 n1 c1, .slice a2 n2 c2, .slice a3 n3 c3]) x) (hw : Wel x) :
    Calls Tryz.prog 12 #[.agg #[.int .i64 1, .string (mk key), .int .i64 k2, .string T, .slice a1 n1 c1, .slice a2 n2 c2, .slice a3 n3 c3, .int .i64 d]] w fun e w' => e = .returned (.bool (mayE ⟨1, key, x, d⟩)) ∧ Below w.heap.size w w' := by
  obtain ⟨W, hW⟩ : ∃ W, W = w.alloc (fO 1 k2 d (mk key) T (.slice a1 n1 c1) (.slice a2 n2 c2) (.slice a3 n3 c3)) := ⟨_, rfl⟩
  have HB := hid_of (show Below w.heap.size w W by rw [hW]; exact alb _ _)
  have HX := hid_of (show W.heap[w.heap.size]? = some (fO 1 k2 d (mk key) T (.slice a1 n1 c1) (.slice a2 n2 c2) (.slice a3 n3 c3)) by rw [hW]; exact heap_alloc_new w _)
  have HZ := hid_of (zero_call (h.below HB.out) hw)
  have HFi := hid_of (fit_call (h.below HB.out) hw d)
  have HW := hid_of hW
  have k0 := empty_list key
  have k1 := beq_list key
  have HM : Hid (mayE ⟨1, key, x, d⟩ = decide (fitE x d = 0)) := hid_of (by
    show (keyB true key && (dueOk d && decide (chk x = 0))) = _
    unfold fitE keyB
    by_cases hc : chk x = 0
    · rw [if_pos hc]
      cases dueOk d <;> simp [hc]
    · rw [if_neg hc]
      simp [hc])
  clear hW h
  rw [HM.out]
  generalize fitE x d = fe at *
  generalize mk key = K at *
  by_cases h0 : 0 ≤ d
  all_goals
    go_enter Tryz.func12, Tryz.ntmps12
    go_wp2_with fail
    rw [← HW.out]
    refine HFi.out.mono ?_
    rintro e w1 ⟨rfl, hb⟩
    have HB1 := hid_of hb
    clear hb
    go_wp2_with fail
    go_ret
    exact ⟨by first | rfl | (by_cases q : fe = 0 <;> simp [q]), HB.out.trans (HB1.out.mono HB.out.size)⟩
set_option maxHeartbeats 1000000 in
set_option maxRecDepth 100000 in
theorem may2 {w : World} {a1 a2 a3 : Option Addr} {n1 c1 n2 c2 n3 c3 : Nat} {T : ByteArray} {k2 : Int} (key : Bs) (x : Vl) (d : Int) (h : VA w (.agg #[.int .i64 k2, .string T, .slice a1 n1 c1, .slice a2 n2 c2, .slice a3 n3 c3]) x) (hw : Wel x) :
    Calls Tryz.prog 12 #[.agg #[.int .i64 2, .string (mk key), .int .i64 k2, .string T, .slice a1 n1 c1, .slice a2 n2 c2, .slice a3 n3 c3, .int .i64 d]] w fun e w' => e = .returned (.bool (mayE ⟨2, key, x, d⟩)) ∧ Below w.heap.size w w' := by
  obtain ⟨W, hW⟩ : ∃ W, W = w.alloc (fO 2 k2 d (mk key) T (.slice a1 n1 c1) (.slice a2 n2 c2) (.slice a3 n3 c3)) := ⟨_, rfl⟩
  have HB := hid_of (show Below w.heap.size w W by rw [hW]; exact alb _ _)
  have HX := hid_of (show W.heap[w.heap.size]? = some (fO 2 k2 d (mk key) T (.slice a1 n1 c1) (.slice a2 n2 c2) (.slice a3 n3 c3)) by rw [hW]; exact heap_alloc_new w _)
  have HZ := hid_of (zero_call (h.below HB.out) hw)
  have HFi := hid_of (fit_call (h.below HB.out) hw d)
  have HW := hid_of hW
  have k0 := empty_list key
  have k1 := beq_list key
  have HM : Hid (mayE ⟨2, key, x, d⟩ = (sm x zV && decide (d = 0))) := hid_of (by
    show (keyB true key && (decide (d = 0) && sm x zV)) = _
    unfold keyB
    cases sm x zV <;> simp)
  clear hW h HFi
  rw [HM.out]
  generalize sm x zV = z at *
  generalize mk key = K at *
  by_cases h0 : 0 ≤ d
  all_goals
    cases z
    · go_enter Tryz.func12, Tryz.ntmps12
      go_wp2_with fail
      rw [← HW.out]
      refine HZ.out.mono ?_
      rintro e w1 ⟨rfl, hb⟩
      have HB1 := hid_of hb
      clear hb
      go_wp2_with fail
      go_ret
      exact ⟨by simp, HB.out.trans (HB1.out.mono HB.out.size)⟩
    · go_enter Tryz.func12, Tryz.ntmps12
      go_wp2_with fail
      rw [← HW.out]
      refine HZ.out.mono ?_
      rintro e w1 ⟨rfl, hb⟩
      have HB1 := hid_of hb
      have c7 : w1.cell? ⟨w.heap.size, 7, none⟩ = some (.int .i64 d) := Lib.cell_of_heap ((hb.block _ (lt_of HX.out)).trans HX.out) 7
      clear hb
      go_wp2_with fail
      go_ret
      exact ⟨by first | rfl | (by_cases q : d = 0 <;> simp [q]), HB.out.trans (HB1.out.mono HB.out.size)⟩
set_option maxHeartbeats 1000000 in
set_option maxRecDepth 100000 in
theorem may3 {w : World} {a1 a2 a3 : Option Addr} {n1 c1 n2 c2 n3 c3 : Nat} {T : ByteArray} {k2 : Int} (key : Bs) (x : Vl) (d : Int) (h : VA w (.agg #[.int .i64 k2, .string T, .slice a1 n1 c1, .slice a2 n2 c2, .slice a3 n3 c3]) x) (hw : Wel x) :
    Calls Tryz.prog 12 #[.agg #[.int .i64 3, .string (mk key), .int .i64 k2, .string T, .slice a1 n1 c1, .slice a2 n2 c2, .slice a3 n3 c3, .int .i64 d]] w fun e w' => e = .returned (.bool (mayE ⟨3, key, x, d⟩)) ∧ Below w.heap.size w w' := by
  obtain ⟨W, hW⟩ : ∃ W, W = w.alloc (fO 3 k2 d (mk key) T (.slice a1 n1 c1) (.slice a2 n2 c2) (.slice a3 n3 c3)) := ⟨_, rfl⟩
  have HB := hid_of (show Below w.heap.size w W by rw [hW]; exact alb _ _)
  have HX := hid_of (show W.heap[w.heap.size]? = some (fO 3 k2 d (mk key) T (.slice a1 n1 c1) (.slice a2 n2 c2) (.slice a3 n3 c3)) by rw [hW]; exact heap_alloc_new w _)
  have HZ := hid_of (zero_call (h.below HB.out) hw)
  have HFi := hid_of (fit_call (h.below HB.out) hw d)
  have HW := hid_of hW
  have k0 := empty_list key
  have k1 := beq_list key
  have HM : Hid (mayE ⟨3, key, x, d⟩ = (sm x zV && dueOk d)) := hid_of (by
    show (keyB true key && (dueOk d && sm x zV)) = _
    unfold keyB
    cases sm x zV <;> simp)
  clear hW h HFi
  rw [HM.out]
  unfold dueOk
  generalize sm x zV = z at *
  generalize mk key = K at *
  by_cases h0 : 0 ≤ d
  all_goals
    cases z
    · go_enter Tryz.func12, Tryz.ntmps12
      go_wp2_with fail
      rw [← HW.out]
      refine HZ.out.mono ?_
      rintro e w1 ⟨rfl, hb⟩
      have HB1 := hid_of hb
      clear hb
      go_wp2_with fail
      go_ret
      exact ⟨by simp, HB.out.trans (HB1.out.mono HB.out.size)⟩
    · go_enter Tryz.func12, Tryz.ntmps12
      go_wp2_with fail
      rw [← HW.out]
      refine HZ.out.mono ?_
      rintro e w1 ⟨rfl, hb⟩
      have HB1 := hid_of hb
      clear hb
      go_wp2_with fail
      go_ret
      exact ⟨by first | (simp [h0]; done) | (simp [h0]; omega), HB.out.trans (HB1.out.mono HB.out.size)⟩
set_option maxHeartbeats 1000000 in
set_option maxRecDepth 100000 in
theorem may4 {w : World} {a1 a2 a3 : Option Addr} {n1 c1 n2 c2 n3 c3 : Nat} {T : ByteArray} {k2 : Int} (key : Bs) (x : Vl) (d : Int) (h : VA w (.agg #[.int .i64 k2, .string T, .slice a1 n1 c1, .slice a2 n2 c2, .slice a3 n3 c3]) x) (hw : Wel x) :
    Calls Tryz.prog 12 #[.agg #[.int .i64 4, .string (mk key), .int .i64 k2, .string T, .slice a1 n1 c1, .slice a2 n2 c2, .slice a3 n3 c3, .int .i64 d]] w fun e w' => e = .returned (.bool (mayE ⟨4, key, x, d⟩)) ∧ Below w.heap.size w w' := by
  obtain ⟨W, hW⟩ : ∃ W, W = w.alloc (fO 4 k2 d (mk key) T (.slice a1 n1 c1) (.slice a2 n2 c2) (.slice a3 n3 c3)) := ⟨_, rfl⟩
  have HB := hid_of (show Below w.heap.size w W by rw [hW]; exact alb _ _)
  have HX := hid_of (show W.heap[w.heap.size]? = some (fO 4 k2 d (mk key) T (.slice a1 n1 c1) (.slice a2 n2 c2) (.slice a3 n3 c3)) by rw [hW]; exact heap_alloc_new w _)
  have HZ := hid_of (zero_call (h.below HB.out) hw)
  have HFi := hid_of (fit_call (h.below HB.out) hw d)
  have HW := hid_of hW
  have k0 := empty_list key
  have k1 := beq_list key
  have HM : Hid (mayE ⟨4, key, x, d⟩ = (sm x zV && (decide (d = 0) && decide (key = [])))) := hid_of (by
    show (decide (key = []) && (decide (d = 0) && sm x zV)) = _
    cases sm x zV <;> cases decide (d = 0) <;> cases decide (key = []) <;> rfl)
  clear hW h HFi
  rw [HM.out]
  generalize sm x zV = z at *
  generalize decide (key = []) = ke at *
  generalize mk key = K at *
  by_cases h0 : 0 ≤ d
  all_goals
    cases z
    · go_enter Tryz.func12, Tryz.ntmps12
      go_wp2_with fail
      rw [← HW.out]
      refine HZ.out.mono ?_
      rintro e w1 ⟨rfl, hb⟩
      have HB1 := hid_of hb
      clear hb
      go_wp2_with fail
      go_ret
      exact ⟨by simp, HB.out.trans (HB1.out.mono HB.out.size)⟩
    · by_cases hd0 : d = 0
      · have e0 : (d == 0) = true := by simp [hd0]
        rw [decide_eq_true hd0]
        clear hd0
        go_enter Tryz.func12, Tryz.ntmps12
        go_wp2_with fail
        rw [← HW.out]
        refine HZ.out.mono ?_
        rintro e w1 ⟨rfl, hb⟩
        have HB1 := hid_of hb
        have c7 : w1.cell? ⟨w.heap.size, 7, none⟩ = some (.int .i64 d) := Lib.cell_of_heap ((hb.block _ (lt_of HX.out)).trans HX.out) 7
        have c1' : w1.cell? ⟨w.heap.size, 1, none⟩ = some (.string K) := Lib.cell_of_heap ((hb.block _ (lt_of HX.out)).trans HX.out) 1
        clear hb
        go_wp2_with fail
        go_ret
        exact ⟨by first | rfl | (simp [k0, k1]), HB.out.trans (HB1.out.mono HB.out.size)⟩
      · have e0 : (d == 0) = false := by simp [hd0]
        rw [decide_eq_false hd0]
        clear hd0
        go_enter Tryz.func12, Tryz.ntmps12
        go_wp2_with fail
        rw [← HW.out]
        refine HZ.out.mono ?_
        rintro e w1 ⟨rfl, hb⟩
        have HB1 := hid_of hb
        have c7 : w1.cell? ⟨w.heap.size, 7, none⟩ = some (.int .i64 d) := Lib.cell_of_heap ((hb.block _ (lt_of HX.out)).trans HX.out) 7
        clear hb
        go_wp2_with fail
        go_ret
        exact ⟨by simp, HB.out.trans (HB1.out.mono HB.out.size)⟩
set_option maxHeartbeats 1000000 in
set_option maxRecDepth 100000 in
theorem may0 {w : World} {a1 a2 a3 : Option Addr} {n1 c1 n2 c2 n3 c3 : Nat} {T : ByteArray} {k2 : Int} (key : Bs) (x : Vl) (d : Int) (kd : Int) (hk : okK kd = false) (h : VA w (.agg #[.int .i64 k2, .string T, .slice a1 n1 c1, .slice a2 n2 c2, .slice a3 n3 c3]) x) (hw : Wel x) :
    Calls Tryz.prog 12 #[.agg #[.int .i64 kd, .string (mk key), .int .i64 k2, .string T, .slice a1 n1 c1, .slice a2 n2 c2, .slice a3 n3 c3, .int .i64 d]] w fun e w' => e = .returned (.bool (mayE ⟨kd, key, x, d⟩)) ∧ Below w.heap.size w w' := by
  obtain ⟨W, hW⟩ : ∃ W, W = w.alloc (fO kd k2 d (mk key) T (.slice a1 n1 c1) (.slice a2 n2 c2) (.slice a3 n3 c3)) := ⟨_, rfl⟩
  have HB := hid_of (show Below w.heap.size w W by rw [hW]; exact alb _ _)
  have HX := hid_of (show W.heap[w.heap.size]? = some (fO kd k2 d (mk key) T (.slice a1 n1 c1) (.slice a2 n2 c2) (.slice a3 n3 c3)) by rw [hW]; exact heap_alloc_new w _)
  have HZ := hid_of (zero_call (h.below HB.out) hw)
  have HFi := hid_of (fit_call (h.below HB.out) hw d)
  have HW := hid_of hW
  have k0 := empty_list key
  have k1 := beq_list key
  have HM : Hid (mayE ⟨kd, key, x, d⟩ = false) := hid_of (by unfold mayE; rw [show okK kd = false from hk]; rfl)
  clear hW h HFi HZ
  rw [HM.out]
  unfold okK at hk
  simp only [Bool.or_eq_false_iff, decide_eq_false_iff_not] at hk
  obtain ⟨⟨⟨q1, q2⟩, q3⟩, q4⟩ := hk
  have e1 : (kd == 1) = false := by simp [q1]
  have e2 : (kd == 2) = false := by simp [q2]
  have e3 : (kd == 3) = false := by simp [q3]
  have e4 : (kd == 4) = false := by simp [q4]
  generalize mk key = K at *
  by_cases h0 : 0 ≤ d
  all_goals
    go_enter Tryz.func12, Tryz.ntmps12
    go_wp2_with fail
    rw [← HW.out]
    go_ret
    exact ⟨rfl, HB.out⟩
theorem rmay_call {w : World} {a1 a2 a3 : Option Addr} {n1 c1 n2 c2 n3 c3 : Nat} {T : ByteArray} {k2 : Int} {f : Ef} (h : VA w (.agg #[.int .i64 k2, .string T, .slice a1 n1 c1, .slice a2 n2 c2, .slice a3 n3 c3]) f.val) (hw : Wel f.val) :
    Calls Tryz.prog 12 #[.agg #[.int .i64 f.kind, .string (mk f.key), .int .i64 k2, .string T, .slice a1 n1 c1, .slice a2 n2 c2, .slice a3 n3 c3, .int .i64 f.due]] w fun e w' => e = .returned (.bool (mayE f)) ∧ Below w.heap.size w w' := by
  obtain ⟨kd, key, x, d⟩ := f
  cases hk : okK kd with
  | false => exact may0 key x d kd hk h hw
  | true =>
    have hc : kd = 1 ∨ kd = 2 ∨ kd = 3 ∨ kd = 4 := by
      unfold okK at hk
      simp only [Bool.or_eq_true, decide_eq_true_eq] at hk
      omega
    rcases hc with rfl | rfl | rfl | rfl
    · exact may1 key x d h hw
    · exact may2 key x d h hw
    · exact may3 key x d h hw
    · exact may4 key x d h hw
end Go.Proofs.YtpnigkjmofhmbabGreat.FMay
end
section
namespace Go.Proofs.YtpnigkjmofhmbabGreat.DTake
open Go.RowKit Go.Maps
open Go.Proofs.YtpnigkjmofhmbabGreat.SetMath
open Go.Proofs.YtpnigkjmofhmbabGreat.BytesMath
open Go.Proofs.YtpnigkjmofhmbabGreat.FixMath
open Go.Proofs.YtpnigkjmofhmbabGreat.ValueMath
open Go.Proofs.YtpnigkjmofhmbabGreat.ReadMath
open Go.Proofs.YtpnigkjmofhmbabGreat.Base
open Go.Proofs.YtpnigkjmofhmbabGreat.Vals
open Go.Proofs.YtpnigkjmofhmbabGreat.Check0
open Go.Proofs.YtpnigkjmofhmbabGreat.Dec
open Go.Proofs.YtpnigkjmofhmbabGreat.SBase (Ef)
open Go.Proofs.YtpnigkjmofhmbabGreat.SFind (alb)
open Go.Proofs.YtpnigkjmofhmbabGreat.SSet (box8)
open Go.Proofs.YtpnigkjmofhmbabGreat.EMay
open Go.Proofs.YtpnigkjmofhmbabGreat.EAll (fO)
open Go.Proofs.YtpnigkjmofhmbabGreat.ERd
open Go.Proofs.YtpnigkjmofhmbabGreat.EEff
open Go.Proofs.YtpnigkjmofhmbabGreat.EDec
open Go.Proofs.YtpnigkjmofhmbabGreat.DFix
open Go.Proofs.YtpnigkjmofhmbabGreat.DTakM
set_option linter.unusedVariables false
set_option linter.unusedSimpArgs false
def TkE (s : Bs) (w : World) (e : Ending) (w' : World) : Prop := ∃ kd K k2 T a1 n1 c1 a2 n2 c2 a3 n3 c3 d R ok, e = .returned (.tuple #[.agg #[.int .i64 kd, .string K, .int .i64 k2, .string T, .slice a1 n1 c1, .slice a2 n2 c2, .slice a3 n3 c3, .int .i64 d], .string R, .bool ok]) ∧ Below w.heap.size w w' ∧ ((ok = false ∧ bad s) ∨ (ok = true ∧ ¬ bad s ∧ kd = (efS (s, false)).1.kind ∧ K = mk (efS (s, false)).1.key ∧ d = (efS (s, false)).1.due ∧ R = mk (efS (s, false)).2.1 ∧ VN w.heap.size w' (.agg #[.int .i64 k2, .string T, .slice a1 n1 c1, .slice a2 n2 c2, .slice a3 n3 c3]) (efS (s, false)).1.val))
theorem index_at (l : List UInt8) (i : Nat) (h : i < l.length) (w : World) : (Instr.index 9 (.string (mk l)) (.int .i64 (i : Int))).run Tryz.prog w = .ok (.int .u8 (l[i].toNat : Int)) w := by
  have hi : i < (mk l).size := by rw [mk_size]; exact h
  rw [run_index_string w 9 (mk l) .i64 (i : Int) Tryz.underlying9, dif_pos ⟨by omega, by omega⟩]
  rfl
theorem cons_ix (c : UInt8) (r : Bs) (w : World) : (Instr.index 9 (.string (mk (c :: r))) (.int .i64 0)).run Tryz.prog w = .ok (.int .u8 (c.toNat : Int)) w := index_at (c :: r) 0 (by simp) w
theorem cons_cut (c : UInt8) (r : Bs) (w : World) : (Instr.slice 9 (.string (mk (c :: r))) (some (.int .i64 1)) none none).run Tryz.prog w = .ok (.string (mk r)) w := icut_from (c :: r) 1 (by simp) w
theorem set8_bel {B : Nat} {w w' : World} (h : Below B w w') {q : Nat} (hq : B ≤ q) {y0 y1 y2 y3 y4 y5 y6 y7 : Value} : Below B w (set8 w' q y0 y1 y2 y3 y4 y5 y6 y7) := by
  unfold set8
  exact (((((((h.setCell hq _).setCell hq _).setCell hq _).setCell hq _).setCell hq _).setCell hq _).setCell hq _).setCell hq _
/- both boxes: the answer's at w.heap.size, the effect's behind it -/
structure Bx (w W : World) (kd k2 d : Int) (K T : ByteArray) (A B C : Value) : Prop where
  r : W.heap[w.heap.size]? = some zF
  e : W.heap[w.heap.size + 1]? = some (fO kd k2 d K T A B C)
  b : Below w.heap.size w W
theorem Bx.low {w W V : World} {kd k2 d : Int} {K T : ByteArray} {A B C : Value} (h : Bx w W kd k2 d K T A B C) (b : Below W.heap.size W V) : Bx w V kd k2 d K T A B C := ⟨(b.block _ (lt_of h.r)).trans h.r, (b.block _ (lt_of h.e)).trans h.e, FRow.bel h.b b (Nat.le_refl _)⟩
theorem bx0 (w : World) (kd : Int) : Bx w ((w.alloc zF).alloc (fO kd 0 0 ⟨#[]⟩ ⟨#[]⟩ (.slice none 0 0) (.slice none 0 0) (.slice none 0 0))) kd 0 0 ⟨#[]⟩ ⟨#[]⟩ (.slice none 0 0) (.slice none 0 0) (.slice none 0 0) := by
  refine ⟨?_, ?_, FRow.bel (alb _ _) (alb _ _) (Nat.le_refl _)⟩
  · rw [Below.heap_alloc _ _ _ (by simp)]
    exact heap_alloc_new w _
  · have := heap_alloc_new (w.alloc zF) (fO kd 0 0 ⟨#[]⟩ ⟨#[]⟩ (.slice none 0 0) (.slice none 0 0) (.slice none 0 0))
    simpa using this
set_option maxHeartbeats 4000000 in
set_option maxRecDepth 100000 in
theorem t_key (c : UInt8) (r : Bs) (w : World) (hl : r.length < 549755813888) (h4 : (c.toNat : Int) ≠ 4) (hf : (fxS r).2.2 = false) (hb : bad (c :: r)) : Calls Tryz.prog 26 #[.string (mk (c :: r))] w (TkE (c :: r) w) := by
  obtain ⟨W0, hW0⟩ : ∃ W0, W0 = (w.alloc zF).alloc (fO (c.toNat : Int) 0 0 ⟨#[]⟩ ⟨#[]⟩ (.slice none 0 0) (.slice none 0 0) (.slice none 0 0)) := ⟨_, rfl⟩
  have H0 := hid_of (show Bx w W0 (c.toNat : Int) 0 0 ⟨#[]⟩ ⟨#[]⟩ (.slice none 0 0) (.slice none 0 0) (.slice none 0 0) by rw [hW0]; exact bx0 w _)
  have HW0 := hid_of hW0
  have HF := hid_of (fix_call r W0 (by omega))
  have hI := cons_ix c r
  have hS := cons_cut c r
  have hcv : IntKind.i64.wrap (c.toNat : Int) = (c.toNat : Int) := IntWalk.i64_in _ (by have := UInt8.toNat_lt c; omega)
  have hk4 : ((c.toNat : Int) == 4) = false := by simp [h4]
  have HB := hid_of hb
  rw [hf] at HF
  unfold TkE
  clear hW0 hl h4 hf hb
  generalize (fxS r).1 = n at *
  generalize mk (fxS r).2.1 = U at *
  generalize ((c.toNat : Nat) : Int) = kd at *
  generalize mk (c :: r) = X at *
  generalize mk r = Y at *
  go_enter Tryz.func26, Tryz.ntmps26
  go_wp2_with fail
  rw [← HW0.out]
  refine HF.out.mono ?_
  rintro e w1 ⟨rfl, b1⟩
  have H1 := hid_of (H0.out.low b1)
  clear b1 HF H0 HW0
  obtain ⟨⟨x0, x1, x2, x3, x4, x5, x6, x7⟩, fx⟩ := box8 H1.out.e
  obtain ⟨⟨y0, y1, y2, y3, y4, y5, y6, y7⟩, fy⟩ := box8 H1.out.r
  have fx0 := fx 0
  have fy0 := fy 0
  have fx1 := fx 1
  have fy1 := fy 1
  have fx2 := fx 2
  have fy2 := fy 2
  have fx3 := fx 3
  have fy3 := fy 3
  have fx4 := fx 4
  have fy4 := fy 4
  have fx5 := fx 5
  have fy5 := fy 5
  have fx6 := fx 6
  have fy6 := fy 6
  have fx7 := fx 7
  have fy7 := fy 7
  clear fx fy
  go_wp2_with fail
  have hz := set8_at H1.out.r (.int .i64 kd) (.string ⟨#[]⟩) (.int .i64 0) (.string ⟨#[]⟩) (.slice none 0 0) (.slice none 0 0) (.slice none 0 0) (.int .i64 0)
  have hb := set8_bel H1.out.b (Nat.le_refl w.heap.size) (y0 := .int .i64 kd) (y1 := .string ⟨#[]⟩) (y2 := .int .i64 0) (y3 := .string ⟨#[]⟩) (y4 := .slice none 0 0) (y5 := .slice none 0 0) (y6 := .slice none 0 0) (y7 := .int .i64 0)
  have g0 := Lib.cell_of_heap hz 0
  have g1 := Lib.cell_of_heap hz 1
  have g2 := Lib.cell_of_heap hz 2
  have g3 := Lib.cell_of_heap hz 3
  have g4 := Lib.cell_of_heap hz 4
  have g5 := Lib.cell_of_heap hz 5
  have g6 := Lib.cell_of_heap hz 6
  have g7 := Lib.cell_of_heap hz 7
  unfold set8 at g0 g1 g2 g3 g4 g5 g6 g7 hb
  refine bodyPost_ret (v := .tuple #[.agg #[.int .i64 kd, .string ⟨#[]⟩, .int .i64 0, .string ⟨#[]⟩, .slice none 0 0, .slice none 0 0, .slice none 0 0, .int .i64 0], .string ⟨#[]⟩, .bool false]) (by simp [results, Tryz.results26, go_sem, g0, g1, g2, g3, g4, g5, g6, g7]) rfl ?_
  exact ⟨_, _, _, _, _, _, _, _, _, _, _, _, _, _, _, _, rfl, hb, .inl ⟨rfl, HB.out⟩⟩
theorem Bx.key {w W : World} {kd k2 d : Int} {K T : ByteArray} {A B C : Value} (h : Bx w W kd k2 d K T A B C) (T1 : ByteArray) : Bx w (W.setCell ⟨w.heap.size + 1, 1, none⟩ (.string T1)).drew kd k2 d T1 T A B C :=
  ⟨(set_ne (by omega) _).trans h.r, set_at (i := 1) h.e (.string T1), (h.b.setCell (by simp) _).drew⟩
theorem Bx.due {w W : World} {kd k2 d : Int} {K T : ByteArray} {A B C : Value} (h : Bx w W kd k2 d K T A B C) (d1 : Int) : Bx w (W.setCell ⟨w.heap.size + 1, 7, none⟩ (.int .i64 d1)) kd k2 d1 K T A B C :=
  ⟨(set_ne (by omega) _).trans h.r, set_at (i := 7) h.e (.int .i64 d1), h.b.setCell (by simp) _⟩
theorem Bx.drew {w W : World} {kd k2 d : Int} {K T : ByteArray} {A B C : Value} (h : Bx w W kd k2 d K T A B C) : Bx w W.drew kd k2 d K T A B C := ⟨h.r, h.e, h.b.drew⟩
theorem Bx.val {w W : World} {kd k2 d : Int} {K T : ByteArray} {A B C : Value} (h : Bx w W kd k2 d K T A B C) (j2 : Int) (T1 : ByteArray) (A1 B1 C1 : Value) : Bx w (((((W.setCell ⟨w.heap.size + 1, 2, none⟩ (.int .i64 j2)).setCell ⟨w.heap.size + 1, 3, none⟩ (.string T1)).setCell ⟨w.heap.size + 1, 4, none⟩ A1).setCell ⟨w.heap.size + 1, 5, none⟩ B1).setCell ⟨w.heap.size + 1, 6, none⟩ C1) kd j2 d K T1 A1 B1 C1 := by
  refine ⟨?_, ?_, ((((h.b.setCell (by simp) _).setCell (by simp) _).setCell (by simp) _).setCell (by simp) _).setCell (by simp) _⟩
  · rw [set_ne (by omega), set_ne (by omega), set_ne (by omega), set_ne (by omega), set_ne (by omega)]
    exact h.r
  · simpa using set_at (i := 6) (set_at (i := 5) (set_at (i := 4) (set_at (i := 3) (set_at (i := 2) h.e (.int .i64 j2)) (.string T1)) A1) B1) C1
end Go.Proofs.YtpnigkjmofhmbabGreat.DTake
end
