/- The document's word on whether an effect may be. Changes of a space without a mark, as effects do them. -/
import Derived.Test.YtpnigkjmofhmbabGreatEEncM
import Derived.Test.YtpnigkjmofhmbabGreatFTwinM
import Derived.Test.YtpnigkjmofhmbabGreatRCheckK5M
import Derived.Test.YtpnigkjmofhmbabGreatEDecM
section
namespace Go.Proofs.YtpnigkjmofhmbabGreat.FMay
open Go.RowKit Go.Maps
open Go.Proofs.YtpnigkjmofhmbabGreat.ValueMath (Vl chk small sm)
open Go.Proofs.YtpnigkjmofhmbabGreat.Base (mk mk_list mk_size Gr hid_of SL)
open Go.Proofs.YtpnigkjmofhmbabGreat.Turn
open Go.Proofs.YtpnigkjmofhmbabGreat.Vals
open Go.Proofs.YtpnigkjmofhmbabGreat.Check0 (Wel)
open Go.Proofs.YtpnigkjmofhmbabGreat.Dec (zV)
open Go.Proofs.YtpnigkjmofhmbabGreat.SBase
open Go.Proofs.YtpnigkjmofhmbabGreat.SFind (alb)
open Go.Proofs.YtpnigkjmofhmbabGreat.SSet (box8)
open Go.Proofs.YtpnigkjmofhmbabGreat.SPut (vO)
open Go.Proofs.YtpnigkjmofhmbabGreat.EMay
open Go.Proofs.YtpnigkjmofhmbabGreat.EAll
set_option linter.unusedVariables false
set_option linter.unusedSimpArgs false
set_option maxRecDepth 100000 in
theorem zero_call {w : World} {a1 a2 a3 : Option Addr} {n1 c1 n2 c2 n3 c3 : Nat} {T : ByteArray} {kd : Int} {x : Vl} (h : VA w (.agg #[.int .i64 kd, .string T, .slice a1 n1 c1, .slice a2 n2 c2, .slice a3 n3 c3]) x) (hw : Wel x) :
    Calls Tryz.prog 34 #[.agg #[.int .i64 kd, .string T, .slice a1 n1 c1, .slice a2 n2 c2, .slice a3 n3 c3]] w fun e w' => e = .returned (.bool (sm x zV)) ∧ Below w.heap.size w w' := by
  obtain ⟨W, hW⟩ : ∃ W, W = w.alloc (vO kd T (.slice a1 n1 c1) (.slice a2 n2 c2) (.slice a3 n3 c3)) := ⟨_, rfl⟩
  have HB := hid_of (show Below w.heap.size w W by rw [hW]; exact alb _ _)
  have HS := hid_of (RSame.rsame_call (h.below HB.out) (va_zero W) hw.toFit fit_zero)
  have HW := hid_of hW
  clear hW h
  generalize sm x zV = r at *
  go_enter Tryz.func34, Tryz.ntmps34
  go_wp2_with fail
  rw [← HW.out]
  refine HS.out.mono ?_
  rintro e w1 ⟨rfl, hb⟩
  have HB1 := hid_of hb
  clear hb
  go_wp2_with fail
  go_ret
  exact ⟨rfl, HB.out.trans (HB1.out.mono HB.out.size)⟩
def fitE (x : Vl) (d : Int) : Int := if chk x = 0 then (if dueOk d then 0 else 70) else chk x
set_option maxRecDepth 100000 in
theorem fit_call {w : World} {a1 a2 a3 : Option Addr} {n1 c1 n2 c2 n3 c3 : Nat} {T : ByteArray} {kd : Int} {x : Vl} (h : VA w (.agg #[.int .i64 kd, .string T, .slice a1 n1 c1, .slice a2 n2 c2, .slice a3 n3 c3]) x) (hw : Wel x) (d : Int) :
    Calls Tryz.prog 33 #[.agg #[.int .i64 kd, .string T, .slice a1 n1 c1, .slice a2 n2 c2, .slice a3 n3 c3], .int .i64 d] w fun e w' => e = .returned (.int .i64 (fitE x d)) ∧ Below w.heap.size w w' := by
  obtain ⟨W, hW⟩ : ∃ W, W = w.alloc (vO kd T (.slice a1 n1 c1) (.slice a2 n2 c2) (.slice a3 n3 c3)) := ⟨_, rfl⟩
  have HB := hid_of (show Below w.heap.size w W by rw [hW]; exact alb _ _)
  have HS := hid_of (RCheck.rcheck_call (h.below HB.out) hw)
  have HW := hid_of hW
  clear hW h
  unfold fitE dueOk
  generalize chk x = q at *
  by_cases hq : q = 0
  · subst hq
    rw [if_pos rfl]
    by_cases h0 : d < 0
    · rw [decide_eq_false (show ¬ 0 ≤ d by omega), if_neg (by simp)]
      go_enter Tryz.func33, Tryz.ntmps33
      go_wp2_with fail
      rw [← HW.out]
      refine HS.out.mono ?_
      rintro e w1 ⟨rfl, hb⟩
      have HB1 := hid_of hb
      clear hb
      go_wp2_with fail
      go_ret
      exact ⟨rfl, HB.out.trans (HB1.out.mono HB.out.size)⟩
    · rw [decide_eq_true (show 0 ≤ d by omega)]
      by_cases h1 : 9007199254740992 < d
      · rw [decide_eq_false (show ¬ d ≤ 9007199254740992 by omega), if_neg (by simp)]
        go_enter Tryz.func33, Tryz.ntmps33
        go_wp2_with fail
        rw [← HW.out]
        refine HS.out.mono ?_
        rintro e w1 ⟨rfl, hb⟩
        have HB1 := hid_of hb
        clear hb
        go_wp2_with fail
        go_ret
        exact ⟨rfl, HB.out.trans (HB1.out.mono HB.out.size)⟩
      · rw [decide_eq_true (show d ≤ 9007199254740992 by omega), if_pos (by simp)]
        go_enter Tryz.func33, Tryz.ntmps33
        go_wp2_with fail
        rw [← HW.out]
        refine HS.out.mono ?_
        rintro e w1 ⟨rfl, hb⟩
        have HB1 := hid_of hb
        clear hb
        go_wp2_with fail
        go_ret
        exact ⟨rfl, HB.out.trans (HB1.out.mono HB.out.size)⟩
  · rw [if_neg hq]
    have e0 : (q == 0) = false := by simp [hq]
    go_enter Tryz.func33, Tryz.ntmps33
    go_wp2_with fail
    rw [← HW.out]
    refine HS.out.mono ?_
    rintro e w1 ⟨rfl, hb⟩
    have HB1 := hid_of hb
    clear hb
    go_wp2_with fail
    go_ret
    exact ⟨rfl, HB.out.trans (HB1.out.mono HB.out.size)⟩
set_option maxHeartbeats 1000000 in
set_option maxRecDepth 100000 in
theorem may1 {w : World} {a1 a2 a3 : Option Addr} {n1 c1 n2 c2 n3 c3 : Nat} {T : ByteArray} {k2 : Int} (key : Bs) (x : Vl) (d : Int) (h : VA w (.agg #[.int .i64 k2, .string T, .slice a1 n1 c1, .slice a2 n2 c2, .slice a3 n3 c3]) x) (hw : Wel x) :
    Calls Tryz.prog 12 #[.agg #[.int .i64 1, .string (mk key), .int .i64 k2, .string T, .slice a1 n1 c1, .slice a2 n2 c2, .slice a3 n3 c3, .int .i64 d]] w fun e w' => e = .returned (.bool (mayE ⟨1, key, x, d⟩)) ∧ Below w.heap.size w w' := by
  obtain ⟨W, hW⟩ : ∃ W, W = w.alloc (fO 1 k2 d (mk key) T (.slice a1 n1 c1) (.slice a2 n2 c2) (.slice a3 n3 c3)) := ⟨_, rfl⟩
  have HB := hid_of (show Below w.heap.size w W by rw [hW]; exact alb _ _)
  have HX := hid_of (show W.heap[w.heap.size]? = some (fO 1 k2 d (mk key) T (.slice a1 n1 c1) (.slice a2 n2 c2) (.slice a3 n3 c3)) by rw [hW]; exact heap_alloc_new w _)
  have HZ := hid_of (zero_call (h.below HB.out) hw)
  have HFi := hid_of (fit_call (h.below HB.out) hw d)
  have HW := hid_of hW
  have k0 := empty_list key
  have k1 := beq_list key
  have HM : Hid (mayE ⟨1, key, x, d⟩ = decide (fitE x d = 0)) := hid_of (by
    show (keyB true key && (dueOk d && decide (chk x = 0))) = _
    unfold fitE keyB
    by_cases hc : chk x = 0
    · rw [if_pos hc]
      cases dueOk d <;> simp [hc]
    · rw [if_neg hc]
      simp [hc])
  clear hW h
  rw [HM.out]
  generalize fitE x d = fe at *
  generalize mk key = K at *
  by_cases h0 : 0 ≤ d
  all_goals
    go_enter Tryz.func12, Tryz.ntmps12
    go_wp2_with fail
    rw [← HW.out]
    refine HFi.out.mono ?_
    rintro e w1 ⟨rfl, hb⟩
    have HB1 := hid_of hb
    clear hb
    go_wp2_with fail
    go_ret
    exact ⟨by first | rfl | (by_cases q : fe = 0 <;> simp [q]), HB.out.trans (HB1.out.mono HB.out.size)⟩
set_option maxHeartbeats 1000000 in
set_option maxRecDepth 100000 in
theorem may2 {w : World} {a1 a2 a3 : Option Addr} {n1 c1 n2 c2 n3 c3 : Nat} {T : ByteArray} {k2 : Int} (key : Bs) (x : Vl) (d : Int) (h : VA w (.agg #[.int .i64 k2, .string T, .slice a1 n1 c1, .slice a2 n2 c2, .slice a3 n3 c3]) x) (hw : Wel x) :
    Calls Tryz.prog 12 #[.agg #[.int .i64 2, .string (mk key), .int .i64 k2, .string T, .slice a1 n1 c1, .slice a2 n2 c2, .slice a3 n3 c3, .int .i64 d]] w fun e w' => e = .returned (.bool (mayE ⟨2, key, x, d⟩)) ∧ Below w.heap.size w w' := by
  obtain ⟨W, hW⟩ : ∃ W, W = w.alloc (fO 2 k2 d (mk key) T (.slice a1 n1 c1) (.slice a2 n2 c2) (.slice a3 n3 c3)) := ⟨_, rfl⟩
  have HB := hid_of (show Below w.heap.size w W by rw [hW]; exact alb _ _)
  have HX := hid_of (show W.heap[w.heap.size]? = some (fO 2 k2 d (mk key) T (.slice a1 n1 c1) (.slice a2 n2 c2) (.slice a3 n3 c3)) by rw [hW]; exact heap_alloc_new w _)
  have HZ := hid_of (zero_call (h.below HB.out) hw)
  have HFi := hid_of (fit_call (h.below HB.out) hw d)
  have HW := hid_of hW
  have k0 := empty_list key
  have k1 := beq_list key
  have HM : Hid (mayE ⟨2, key, x, d⟩ = (sm x zV && decide (d = 0))) := hid_of (by
    show (keyB true key && (decide (d = 0) && sm x zV)) = _
    unfold keyB
    cases sm x zV <;> simp)
  clear hW h HFi
  rw [HM.out]
  generalize sm x zV = z at *
  generalize mk key = K at *
  by_cases h0 : 0 ≤ d
  all_goals
    cases z
    · go_enter Tryz.func12, Tryz.ntmps12
      go_wp2_with fail
      rw [← HW.out]
      refine HZ.out.mono ?_
      rintro e w1 ⟨rfl, hb⟩
      have HB1 := hid_of hb
      clear hb
      go_wp2_with fail
      go_ret
      exact ⟨by simp, HB.out.trans (HB1.out.mono HB.out.size)⟩
    · go_enter Tryz.func12, Tryz.ntmps12
      go_wp2_with fail
      rw [← HW.out]
      refine HZ.out.mono ?_
      rintro e w1 ⟨rfl, hb⟩
      have HB1 := hid_of hb
      have c7 : w1.cell? ⟨w.heap.size, 7, none⟩ = some (.int .i64 d) := Lib.cell_of_heap ((hb.block _ (lt_of HX.out)).trans HX.out) 7
      clear hb
      go_wp2_with fail
      go_ret
      exact ⟨by first | rfl | (by_cases q : d = 0 <;> simp [q]), HB.out.trans (HB1.out.mono HB.out.size)⟩
set_option maxHeartbeats 1000000 in
set_option maxRecDepth 100000 in
theorem may3 {w : World} {a1 a2 a3 : Option Addr} {n1 c1 n2 c2 n3 c3 : Nat} {T : ByteArray} {k2 : Int} (key : Bs) (x : Vl) (d : Int) (h : VA w (.agg #[.int .i64 k2, .string T, .slice a1 n1 c1, .slice a2 n2 c2, .slice a3 n3 c3]) x) (hw : Wel x) :
    Calls Tryz.prog 12 #[.agg #[.int .i64 3, .string (mk key), .int .i64 k2, .string T, .slice a1 n1 c1, .slice a2 n2 c2, .slice a3 n3 c3, .int .i64 d]] w fun e w' => e = .returned (.bool (mayE ⟨3, key, x, d⟩)) ∧ Below w.heap.size w w' := by
  obtain ⟨W, hW⟩ : ∃ W, W = w.alloc (fO 3 k2 d (mk key) T (.slice a1 n1 c1) (.slice a2 n2 c2) (.slice a3 n3 c3)) := ⟨_, rfl⟩
  have HB := hid_of (show Below w.heap.size w W by rw [hW]; exact alb _ _)
  have HX := hid_of (show W.heap[w.heap.size]? = some (fO 3 k2 d (mk key) T (.slice a1 n1 c1) (.slice a2 n2 c2) (.slice a3 n3 c3)) by rw [hW]; exact heap_alloc_new w _)
  have HZ := hid_of (zero_call (h.below HB.out) hw)
  have HFi := hid_of (fit_call (h.below HB.out) hw d)
  have HW := hid_of hW
  have k0 := empty_list key
  have k1 := beq_list key
  have HM : Hid (mayE ⟨3, key, x, d⟩ = (sm x zV && dueOk d)) := hid_of (by
    show (keyB true key && (dueOk d && sm x zV)) = _
    unfold keyB
    cases sm x zV <;> simp)
  clear hW h HFi
  rw [HM.out]
  unfold dueOk
  generalize sm x zV = z at *
  generalize mk key = K at *
  by_cases h0 : 0 ≤ d
  all_goals
    cases z
    · go_enter Tryz.func12, Tryz.ntmps12
      go_wp2_with fail
      rw [← HW.out]
      refine HZ.out.mono ?_
      rintro e w1 ⟨rfl, hb⟩
      have HB1 := hid_of hb
      clear hb
      go_wp2_with fail
      go_ret
      exact ⟨by simp, HB.out.trans (HB1.out.mono HB.out.size)⟩
    · go_enter Tryz.func12, Tryz.ntmps12
      go_wp2_with fail
      rw [← HW.out]
      refine HZ.out.mono ?_
      rintro e w1 ⟨rfl, hb⟩
      have HB1 := hid_of hb
      clear hb
      go_wp2_with fail
      go_ret
      exact ⟨by first | (simp [h0]; done) | (simp [h0]; omega), HB.out.trans (HB1.out.mono HB.out.size)⟩
set_option maxHeartbeats 1000000 in
set_option maxRecDepth 100000 in
theorem may4 {w : World} {a1 a2 a3 : Option Addr} {n1 c1 n2 c2 n3 c3 : Nat} {T : ByteArray} {k2 : Int} (key : Bs) (x : Vl) (d : Int) (h : VA w (.agg #[.int .i64 k2, .string T, .slice a1 n1 c1, .slice a2 n2 c2, .slice a3 n3 c3]) x) (hw : Wel x) :
    Calls Tryz.prog 12 #[.agg #[.int .i64 4, .string (mk key), .int .i64 k2, .string T, .slice a1 n1 c1, .slice a2 n2 c2, .slice a3 n3 c3, .int .i64 d]] w fun e w' => e = .returned (.bool (mayE ⟨4, key, x, d⟩)) ∧ Below w.heap.size w w' := by
  obtain ⟨W, hW⟩ : ∃ W, W = w.alloc (fO 4 k2 d (mk key) T (.slice a1 n1 c1) (.slice a2 n2 c2) (.slice a3 n3 c3)) := ⟨_, rfl⟩
  have HB := hid_of (show Below w.heap.size w W by rw [hW]; exact alb _ _)
  have HX := hid_of (show W.heap[w.heap.size]? = some (fO 4 k2 d (mk key) T (.slice a1 n1 c1) (.slice a2 n2 c2) (.slice a3 n3 c3)) by rw [hW]; exact heap_alloc_new w _)
  have HZ := hid_of (zero_call (h.below HB.out) hw)
  have HFi := hid_of (fit_call (h.below HB.out) hw d)
  have HW := hid_of hW
  have k0 := empty_list key
  have k1 := beq_list key
  have HM : Hid (mayE ⟨4, key, x, d⟩ = (sm x zV && (decide (d = 0) && decide (key = [])))) := hid_of (by
    show (decide (key = []) && (decide (d = 0) && sm x zV)) = _
    cases sm x zV <;> cases decide (d = 0) <;> cases decide (key = []) <;> rfl)
  clear hW h HFi
  rw [HM.out]
  generalize sm x zV = z at *
  generalize decide (key = []) = ke at *
  generalize mk key = K at *
  by_cases h0 : 0 ≤ d
  all_goals
    cases z
    · go_enter Tryz.func12, Tryz.ntmps12
      go_wp2_with fail
      rw [← HW.out]
      refine HZ.out.mono ?_
      rintro e w1 ⟨rfl, hb⟩
      have HB1 := hid_of hb
      clear hb
      go_wp2_with fail
      go_ret
      exact ⟨by simp, HB.out.trans (HB1.out.mono HB.out.size)⟩
    · by_cases hd0 : d = 0
      · have e0 : (d == 0) = true := by simp [hd0]
        rw [decide_eq_true hd0]
        clear hd0
        go_enter Tryz.func12, Tryz.ntmps12
        go_wp2_with fail
        rw [← HW.out]
        refine HZ.out.mono ?_
        rintro e w1 ⟨rfl, hb⟩
        have HB1 := hid_of hb
        have c7 : w1.cell? ⟨w.heap.size, 7, none⟩ = some (.int .i64 d) := Lib.cell_of_heap ((hb.block _ (lt_of HX.out)).trans HX.out) 7
        have c1' : w1.cell? ⟨w.heap.size, 1, none⟩ = some (.string K) := Lib.cell_of_heap ((hb.block _ (lt_of HX.out)).trans HX.out) 1
        clear hb
        go_wp2_with fail
        go_ret
        exact ⟨by first | rfl | (simp [k0, k1]), HB.out.trans (HB1.out.mono HB.out.size)⟩
      · have e0 : (d == 0) = false := by simp [hd0]
        rw [decide_eq_false hd0]
        clear hd0
        go_enter Tryz.func12, Tryz.ntmps12
        go_wp2_with fail
        rw [← HW.out]
        refine HZ.out.mono ?_
        rintro e w1 ⟨rfl, hb⟩
        have HB1 := hid_of hb
        have c7 : w1.cell? ⟨w.heap.size, 7, none⟩ = some (.int .i64 d) := Lib.cell_of_heap ((hb.block _ (lt_of HX.out)).trans HX.out) 7
        clear hb
        go_wp2_with fail
        go_ret
        exact ⟨by simp, HB.out.trans (HB1.out.mono HB.out.size)⟩
set_option maxHeartbeats 1000000 in
set_option maxRecDepth 100000 in
theorem may0 {w : World} {a1 a2 a3 : Option Addr} {n1 c1 n2 c2 n3 c3 : Nat} {T : ByteArray} {k2 : Int} (key : Bs) (x : Vl) (d : Int) (kd : Int) (hk : okK kd = false) (h : VA w (.agg #[.int .i64 k2, .string T, .slice a1 n1 c1, .slice a2 n2 c2, .slice a3 n3 c3]) x) (hw : Wel x) :
    Calls Tryz.prog 12 #[.agg #[.int .i64 kd, .string (mk key), .int .i64 k2, .string T, .slice a1 n1 c1, .slice a2 n2 c2, .slice a3 n3 c3, .int .i64 d]] w fun e w' => e = .returned (.bool (mayE ⟨kd, key, x, d⟩)) ∧ Below w.heap.size w w' := by
  obtain ⟨W, hW⟩ : ∃ W, W = w.alloc (fO kd k2 d (mk key) T (.slice a1 n1 c1) (.slice a2 n2 c2) (.slice a3 n3 c3)) := ⟨_, rfl⟩
  have HB := hid_of (show Below w.heap.size w W by rw [hW]; exact alb _ _)
  have HX := hid_of (show W.heap[w.heap.size]? = some (fO kd k2 d (mk key) T (.slice a1 n1 c1) (.slice a2 n2 c2) (.slice a3 n3 c3)) by rw [hW]; exact heap_alloc_new w _)
  have HZ := hid_of (zero_call (h.below HB.out) hw)
  have HFi := hid_of (fit_call (h.below HB.out) hw d)
  have HW := hid_of hW
  have k0 := empty_list key
  have k1 := beq_list key
  have HM : Hid (mayE ⟨kd, key, x, d⟩ = false) := hid_of (by unfold mayE; rw [show okK kd = false from hk]; rfl)
  clear hW h HFi HZ
  rw [HM.out]
  unfold okK at hk
  simp only [Bool.or_eq_false_iff, decide_eq_false_iff_not] at hk
  obtain ⟨⟨⟨q1, q2⟩, q3⟩, q4⟩ := hk
  have e1 : (kd == 1) = false := by simp [q1]
  have e2 : (kd == 2) = false := by simp [q2]
  have e3 : (kd == 3) = false := by simp [q3]
  have e4 : (kd == 4) = false := by simp [q4]
  generalize mk key = K at *
  by_cases h0 : 0 ≤ d
  all_goals
    go_enter Tryz.func12, Tryz.ntmps12
    go_wp2_with fail
    rw [← HW.out]
    go_ret
    exact ⟨rfl, HB.out⟩
theorem rmay_call {w : World} {a1 a2 a3 : Option Addr} {n1 c1 n2 c2 n3 c3 : Nat} {T : ByteArray} {k2 : Int} {f : Ef} (h : VA w (.agg #[.int .i64 k2, .string T, .slice a1 n1 c1, .slice a2 n2 c2, .slice a3 n3 c3]) f.val) (hw : Wel f.val) :
    Calls Tryz.prog 12 #[.agg #[.int .i64 f.kind, .string (mk f.key), .int .i64 k2, .string T, .slice a1 n1 c1, .slice a2 n2 c2, .slice a3 n3 c3, .int .i64 f.due]] w fun e w' => e = .returned (.bool (mayE f)) ∧ Below w.heap.size w w' := by
  obtain ⟨kd, key, x, d⟩ := f
  cases hk : okK kd with
  | false => exact may0 key x d kd hk h hw
  | true =>
    have hc : kd = 1 ∨ kd = 2 ∨ kd = 3 ∨ kd = 4 := by
      unfold okK at hk
      simp only [Bool.or_eq_true, decide_eq_true_eq] at hk
      omega
    rcases hc with rfl | rfl | rfl | rfl
    · exact may1 key x d h hw
    · exact may2 key x d h hw
    · exact may3 key x d h hw
    · exact may4 key x d h hw
end Go.Proofs.YtpnigkjmofhmbabGreat.FMay
end
section
namespace Go.Proofs.YtpnigkjmofhmbabGreat.EDo
open Go.RowKit Go.Maps
open Go.Proofs.YtpnigkjmofhmbabGreat.SpaceMath (wout withL lkp keys Ris toD)
open Go.Proofs.YtpnigkjmofhmbabGreat.ValueMath (Vl chk small sm)
open Go.Proofs.YtpnigkjmofhmbabGreat.Base (mk mk_list mk_size Gr hid_of SL)
open Go.Proofs.YtpnigkjmofhmbabGreat.Turn
open Go.Proofs.YtpnigkjmofhmbabGreat.Vals
open Go.Proofs.YtpnigkjmofhmbabGreat.Check0 (Wel)
open Go.Proofs.YtpnigkjmofhmbabGreat.SBase
open Go.Proofs.YtpnigkjmofhmbabGreat.SFind
open Go.Proofs.YtpnigkjmofhmbabGreat.SSet
open Go.Proofs.YtpnigkjmofhmbabGreat.STouch
open Go.Proofs.YtpnigkjmofhmbabGreat.SPut
open Go.Proofs.YtpnigkjmofhmbabGreat.SDrop
open Go.Proofs.YtpnigkjmofhmbabGreat.EMay
open Go.Proofs.YtpnigkjmofhmbabGreat.EAll
open Go.Proofs.YtpnigkjmofhmbabGreat.EEnc
set_option linter.unusedVariables false
set_option linter.unusedSimpArgs false
set_option maxHeartbeats 1000000 in
set_option maxRecDepth 100000 in
theorem setdue_no {F X : Nat → Prop} {b : Nat} {w : World} {S : Sp} (h : SP F X b w S) (k : Bs) (hk : k.length ≤ 281474976710656) (d : Int) (he : lkp S.l k = none) :
    Calls Tryz.prog 73 #[ptr b, .string (mk k), .int .i64 d] w fun r w' => r = .returned (.bool false) ∧ Below w.heap.size w w' := by
  have H1 := hid_of (find_call h k hk)
  rw [he] at H1
  clear h
  go_enter Tryz.func73, Tryz.ntmps73
  go_wp2_with fail
  refine H1.out.mono ?_
  rintro r w1 ⟨v, rfl, hv, hb1⟩
  have hv : v = zE := hv
  subst hv
  unfold zE
  obtain ⟨W, hW⟩ : ∃ W, W = w1.alloc (eO ⟨#[]⟩ ⟨#[]⟩ 0 (.slice none 0 0) (.slice none 0 0) (.slice none 0 0) 0 0) := ⟨_, rfl⟩
  have H2 := hid_of (there_call ⟨#[]⟩ ⟨#[]⟩ 0 0 none none none 0 0 0 0 0 0 0 W)
  rw [decide_eq_false (Nat.lt_irrefl 0)] at H2
  have HB1 := hid_of (show Below w.heap.size w W by rw [hW]; exact hb1.trans ((alb w1 _).mono hb1.size))
  have HW := hid_of hW
  clear hb1 H1 hW
  go_wp2_with fail
  rw [← HW.out]
  refine H2.out.mono ?_
  rintro r w2 ⟨rfl, hb2⟩
  have HB2 := hid_of (HB1.out.trans (hb2.mono HB1.out.size))
  clear hb2 HB1 H2
  go_wp2_with fail
  go_ret
  exact ⟨rfl, HB2.out⟩
abbrev chg (b : Nat) : Value := .agg #[.func (.func 71) #[ptr b] #[], .func (.func 72) #[ptr b] #[], .func (.func 73) #[ptr b] #[], .func (.func 74) #[ptr b] #[]]
abbrev cO (b : Nat) : Obj := .cells #[.func (.func 71) #[ptr b] #[], .func (.func 72) #[ptr b] #[], .func (.func 73) #[ptr b] #[], .func (.func 74) #[ptr b] #[]] 90
theorem store_func (w : World) (a : Addr) (f : Fn) (x c : Array Value) (v : Value) (hc : w.cell? a = some v) (hf : w.frozen? a = false) : (store a (.func f x c)).run Tryz.prog w = .ok () (w.setCell a (.func f x c)) := by
  rw [run_store Tryz.prog w a _ _ rfl]
  simp [stored, hc, hf]
theorem set_new (w : World) (cs : Array Value) (t : TypeId) (i : Nat) (v : Value) : (w.alloc (.cells cs t)).setCell ⟨w.heap.size, i, none⟩ v = w.alloc (.cells (cs.setIfInBounds i v) t) := by
  unfold World.setCell World.alloc
  simp only [World.mk.injEq, true_and, and_true]
  apply Array.ext
  · simp
  · intro k h1 h2
    simp only [Array.getElem_modify, Array.getElem_push]
    by_cases hk : k < w.heap.size
    · have : w.heap.size ≠ k := by omega
      simp [hk, this]
    · have : w.heap.size = k := by simp at h1; omega
      simp [hk, this]
theorem store_new (w : World) (cs : Array Value) (t : TypeId) (i : Nat) (f : Fn) (x c : Array Value) (h : i < cs.size) : (store ⟨w.heap.size, i, none⟩ (.func f x c)).run Tryz.prog (w.alloc (.cells cs t)) = .ok () (w.alloc (.cells (cs.setIfInBounds i (.func f x c)) t)) := by
  rw [store_func _ _ f x c (cs[i]'h) (by rw [Lib.cell_of_heap (heap_alloc_new w _)]; exact Array.getElem?_eq_getElem h) (Lib.frozen_of_heap (heap_alloc_new w _) i), set_new]
set_option maxRecDepth 100000 in
theorem chg_call (b : Nat) (w : World) : Calls Tryz.prog 39 #[ptr b] w fun r w' => r = .returned (chg b) ∧ Below w.heap.size w w' := by
  have q0 := store_new w #[.nilFunc, .nilFunc, .nilFunc, .nilFunc] 90 0 (.func 71) #[ptr b] #[] (by simp)
  have q1 := store_new w #[.func (.func 71) #[ptr b] #[], .nilFunc, .nilFunc, .nilFunc] 90 1 (.func 72) #[ptr b] #[] (by simp)
  have q2 := store_new w #[.func (.func 71) #[ptr b] #[], .func (.func 72) #[ptr b] #[], .nilFunc, .nilFunc] 90 2 (.func 73) #[ptr b] #[] (by simp)
  have q3 := store_new w #[.func (.func 71) #[ptr b] #[], .func (.func 72) #[ptr b] #[], .func (.func 73) #[ptr b] #[], .nilFunc] 90 3 (.func 74) #[ptr b] #[] (by simp)
  simp only [List.setIfInBounds_toArray, List.set_cons_zero, List.set_cons_succ] at q0 q1 q2 q3
  go_enter Tryz.func39, Tryz.ntmps39
  go_wp2_with fail
  exact bodyPost_ret (v := chg b) (by simp [results, Tryz.results39, go_sem]) rfl ⟨rfl, alb _ _⟩
/-- what an effect that may be does, clear aside -/
def doE (S : Sp) (f : Ef) : Sp := if f.kind = 1 then ⟨withL S.l f.key ⟨f.val, f.due, S.cnt + 1⟩, S.cnt + 1, none⟩ else if f.kind = 2 then (if (lkp S.l f.key).isSome then ⟨wout S.l f.key, S.cnt + 1, none⟩ else S) else match lkp S.l f.key with
  | some e => ⟨withL S.l f.key ⟨e.val, f.due, S.cnt + 1⟩, S.cnt + 1, none⟩
  | none => S
theorem do_none {S : Sp} (hm : S.mrk = none) (f : Ef) : (doE S f).mrk = none := by
  unfold doE
  split
  · rfl
  · split
    · split
      · rfl
      · exact hm
    · split
      · rfl
      · exact hm
theorem do_cnt (S : Sp) (f : Ef) : (doE S f).cnt ≤ S.cnt + 1 := by
  unfold doE
  split
  · exact Nat.le_refl _
  · split
    · split
      · exact Nat.le_refl _
      · exact Nat.le_succ _
    · split
      · exact Nat.le_refl _
      · exact Nat.le_succ _
theorem do_len (S : Sp) (f : Ef) : (doE S f).l.length ≤ S.l.length + 1 := by
  unfold doE
  split
  · exact SpaceMath.with_len _ _ _
  · split
    · split
      · exact Nat.le_succ_of_le (SpaceMath.wout_len _ _)
      · exact Nat.le_succ _
    · split
      · exact SpaceMath.with_len _ _ _
      · exact Nat.le_succ _
set_option maxHeartbeats 1000000 in
set_option maxRecDepth 100000 in
theorem do_call {F X : Nat → Prop} {b : Nat} {w : World} {S : Sp} (h : SP F X b w S) (hm : S.mrk = none) (hc : S.cnt + 1 < 18446744073709551616) (hS : S.l.length + 1 < 1099511627776) (f : Ef) (hf : mayE f = true) (h4 : f.kind ≠ 4) (hn : Nice f) {k2 : Int} {T : ByteArray} {a1 a2 a3 : Option Addr} {n1 c1 n2 c2 n3 c3 : Nat}
    (hv : VA w (.agg #[.int .i64 k2, .string T, .slice a1 n1 c1, .slice a2 n2 c2, .slice a3 n3 c3]) f.val) :
    Calls Tryz.prog 40 #[chg b, .agg #[.int .i64 f.kind, .string (mk f.key), .int .i64 k2, .string T, .slice a1 n1 c1, .slice a2 n2 c2, .slice a3 n3 c3, .int .i64 f.due]] w fun r w' => r = .returned (.tuple #[]) ∧ Dn F X b w w' (doE S f) := by
  obtain ⟨p1, p2, p3, p4⟩ := may_parts hf
  have hkl : f.key.length ≤ 281474976710656 := by have := hn.key; omega
  obtain ⟨W, hW⟩ : ∃ W, W = (w.alloc (cO b)).alloc (fO f.kind k2 f.due (mk f.key) T (.slice a1 n1 c1) (.slice a2 n2 c2) (.slice a3 n3 c3)) := ⟨_, rfl⟩
  have bW : Below w.heap.size w W := by rw [hW]; exact (alb w _).trans ((alb _ _).mono (by simp))
  have HSW := h.below bW
  have HVW := hv.below bW
  have HB := hid_of bW
  have HW := hid_of hW
  obtain ⟨kd, key, val, due⟩ := f
  simp only at *
  unfold chg
  have hcs : kd = 1 ∨ kd = 2 ∨ kd = 3 := by
    unfold okK at p1
    simp only [Bool.or_eq_true, decide_eq_true_eq] at p1
    omega
  clear h hv bW hW h4 hf p1
  rcases hcs with rfl | rfl | rfl
  · have hd : 0 ≤ due ∧ due ≤ 9007199254740992 := by
      have p3 : dueOk due = true := p3
      unfold dueOk at p3
      simpa using p3
    have hx : chk val = 0 := of_decide_eq_true (show decide (chk val = 0) = true from p4)
    have HP := hid_of (put_ok HSW hm hc hS key hkl HVW hn.wel hn.sm hx due hd)
    have HE : Hid (doE S ⟨1, key, val, due⟩ = ⟨withL S.l key ⟨val, due, S.cnt + 1⟩, S.cnt + 1, none⟩) := hid_of rfl
    clear HSW HVW
    go_enter Tryz.func40, Tryz.ntmps40
    go_wp2_with fail
    rw [← HW.out]
    refine HP.out.mono ?_
    rintro r w1 ⟨rfl, hd1⟩
    have HD := hid_of (dn_after HB.out hd1)
    clear hd1
    go_wp2_with fail
    go_end0
    exact ⟨rfl, by rw [HE.out]; exact HD.out⟩
  · cases he : lkp S.l key with
    | none =>
      have HP := hid_of (drop_no HSW key hkl he)
      have HE : Hid (doE S ⟨2, key, val, due⟩ = S) := hid_of (by unfold doE; simp [he])
      have HSS := hid_of HSW
      clear HSW HVW he
      go_enter Tryz.func40, Tryz.ntmps40
      go_wp2_with fail
      rw [← HW.out]
      refine HP.out.mono ?_
      rintro r w1 ⟨rfl, hd1⟩
      have HD := hid_of (dn_after HB.out (Dn.of HSS.out hd1))
      clear hd1
      go_wp2_with fail
      go_end0
      exact ⟨rfl, by rw [HE.out]; exact HD.out⟩
    | some e =>
      have HP := hid_of (drop_yes HSW hm hc key hkl he)
      have HE : Hid (doE S ⟨2, key, val, due⟩ = ⟨wout S.l key, S.cnt + 1, none⟩) := hid_of (by unfold doE; simp [he])
      clear HSW HVW he
      go_enter Tryz.func40, Tryz.ntmps40
      go_wp2_with fail
      rw [← HW.out]
      refine HP.out.mono ?_
      rintro r w1 ⟨rfl, hd1⟩
      have HD := hid_of (dn_after HB.out hd1)
      clear hd1
      go_wp2_with fail
      go_end0
      exact ⟨rfl, by rw [HE.out]; exact HD.out⟩
  · have hd : 0 ≤ due ∧ due ≤ 9007199254740992 := by
      have p3 : dueOk due = true := p3
      unfold dueOk at p3
      simpa using p3
    cases he : lkp S.l key with
    | none =>
      have HP := hid_of (setdue_no HSW key hkl due he)
      have HE : Hid (doE S ⟨3, key, val, due⟩ = S) := hid_of (by unfold doE; simp [he])
      have HSS := hid_of HSW
      clear HSW HVW he
      go_enter Tryz.func40, Tryz.ntmps40
      go_wp2_with fail
      rw [← HW.out]
      refine HP.out.mono ?_
      rintro r w1 ⟨rfl, hd1⟩
      have HD := hid_of (dn_after HB.out (Dn.of HSS.out hd1))
      clear hd1
      go_wp2_with fail
      go_end0
      exact ⟨rfl, by rw [HE.out]; exact HD.out⟩
    | some e =>
      have HP := hid_of (setdue_yes HSW hm hc hS key hkl due hd he)
      have HE : Hid (doE S ⟨3, key, val, due⟩ = ⟨withL S.l key ⟨e.val, due, S.cnt + 1⟩, S.cnt + 1, none⟩) := hid_of (by unfold doE; simp [he])
      clear HSW HVW he
      go_enter Tryz.func40, Tryz.ntmps40
      go_wp2_with fail
      rw [← HW.out]
      refine HP.out.mono ?_
      rintro r w1 ⟨rfl, hd1⟩
      have HD := hid_of (dn_after HB.out hd1)
      clear hd1
      go_wp2_with fail
      go_end0
      exact ⟨rfl, by rw [HE.out]; exact HD.out⟩
end Go.Proofs.YtpnigkjmofhmbabGreat.EDo
end
