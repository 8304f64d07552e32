/- The document's word on whether an effect may be. The document's bytes: four, text. -/
import Derived.Test.YtpnigkjmofhmbaaGreatEEncM
import Derived.Test.YtpnigkjmofhmbaaGreatFTwinM
import Derived.Test.YtpnigkjmofhmbaaGreatRCheckK5M
import Derived.Test.YtpnigkjmofhmbaaGreatWrite2
import Derived.Lib.AppendStr
section
namespace Go.Proofs.YtpnigkjmofhmbaaGreat.FMay
open Go.RowKit Go.Maps
open Go.Proofs.YtpnigkjmofhmbaaGreat.ValueMath (Vl chk small sm)
open Go.Proofs.YtpnigkjmofhmbaaGreat.Base (mk mk_list mk_size Gr hid_of SL)
open Go.Proofs.YtpnigkjmofhmbaaGreat.Turn
open Go.Proofs.YtpnigkjmofhmbaaGreat.Vals
open Go.Proofs.YtpnigkjmofhmbaaGreat.Check0 (Wel)
open Go.Proofs.YtpnigkjmofhmbaaGreat.Dec (zV)
open Go.Proofs.YtpnigkjmofhmbaaGreat.SBase
open Go.Proofs.YtpnigkjmofhmbaaGreat.SFind (alb)
open Go.Proofs.YtpnigkjmofhmbaaGreat.SSet (box8)
open Go.Proofs.YtpnigkjmofhmbaaGreat.SPut (vO)
open Go.Proofs.YtpnigkjmofhmbaaGreat.EMay
open Go.Proofs.YtpnigkjmofhmbaaGreat.EAll
set_option linter.unusedVariables false
set_option linter.unusedSimpArgs false
set_option maxRecDepth 100000 in
theorem zero_call {w : World} {a1 a2 a3 : Option Addr} {n1 c1 n2 c2 n3 c3 : Nat} {T : ByteArray} {kd : Int} {x : Vl} (h : VA w (.agg #[.int .i64 kd, .string T, .slice a1 n1 c1, .slice a2 n2 c2, .slice a3 n3 c3]) x) (hw : Wel x) :
    Calls Tryz.prog 115 #[.agg #[.int .i64 kd, .string T, .slice a1 n1 c1, .slice a2 n2 c2, .slice a3 n3 c3]] w fun e w' => e = .returned (.bool (sm x zV)) ∧ Below w.heap.size w w' := by
  obtain ⟨W, hW⟩ : ∃ W, W = w.alloc (vO kd T (.slice a1 n1 c1) (.slice a2 n2 c2) (.slice a3 n3 c3)) := ⟨_, rfl⟩
  have HB := hid_of (show Below w.heap.size w W by rw [hW]; exact alb _ _)
  have HS := hid_of (RSame.rsame_call (h.below HB.out) (va_zero W) hw.toFit fit_zero)
  have HW := hid_of hW
  clear hW h
  generalize sm x zV = r at *
  go_enter Tryz.func115, Tryz.ntmps115
  go_wp2_with fail
  rw [← HW.out]
  refine HS.out.mono ?_
  rintro e w1 ⟨rfl, hb⟩
  have HB1 := hid_of hb
  clear hb
  go_wp2_with fail
  go_ret
  exact ⟨rfl, HB.out.trans (HB1.out.mono HB.out.size)⟩
def fitE (x : Vl) (d : Int) : Int := if chk x = 0 then (if dueOk d then 0 else 70) else chk x
set_option maxRecDepth 100000 in
theorem fit_call {w : World} {a1 a2 a3 : Option Addr} {n1 c1 n2 c2 n3 c3 : Nat} {T : ByteArray} {kd : Int} {x : Vl} (h : VA w (.agg #[.int .i64 kd, .string T, .slice a1 n1 c1, .slice a2 n2 c2, .slice a3 n3 c3]) x) (hw : Wel x) (d : Int) :
    Calls Tryz.prog 75 #[.agg #[.int .i64 kd, .string T, .slice a1 n1 c1, .slice a2 n2 c2, .slice a3 n3 c3], .int .i64 d] w fun e w' => e = .returned (.int .i64 (fitE x d)) ∧ Below w.heap.size w w' := by
  obtain ⟨W, hW⟩ : ∃ W, W = w.alloc (vO kd T (.slice a1 n1 c1) (.slice a2 n2 c2) (.slice a3 n3 c3)) := ⟨_, rfl⟩
  have HB := hid_of (show Below w.heap.size w W by rw [hW]; exact alb _ _)
  have HS := hid_of (RCheck.rcheck_call (h.below HB.out) hw)
  have HW := hid_of hW
  clear hW h
  unfold fitE dueOk
  generalize chk x = q at *
  by_cases hq : q = 0
  · subst hq
    rw [if_pos rfl]
    by_cases h0 : d < 0
    · rw [decide_eq_false (show ¬ 0 ≤ d by omega), if_neg (by simp)]
      go_enter Tryz.func75, Tryz.ntmps75
      go_wp2_with fail
      rw [← HW.out]
      refine HS.out.mono ?_
      rintro e w1 ⟨rfl, hb⟩
      have HB1 := hid_of hb
      clear hb
      go_wp2_with fail
      go_ret
      exact ⟨rfl, HB.out.trans (HB1.out.mono HB.out.size)⟩
    · rw [decide_eq_true (show 0 ≤ d by omega)]
      by_cases h1 : 9007199254740992 < d
      · rw [decide_eq_false (show ¬ d ≤ 9007199254740992 by omega), if_neg (by simp)]
        go_enter Tryz.func75, Tryz.ntmps75
        go_wp2_with fail
        rw [← HW.out]
        refine HS.out.mono ?_
        rintro e w1 ⟨rfl, hb⟩
        have HB1 := hid_of hb
        clear hb
        go_wp2_with fail
        go_ret
        exact ⟨rfl, HB.out.trans (HB1.out.mono HB.out.size)⟩
      · rw [decide_eq_true (show d ≤ 9007199254740992 by omega), if_pos (by simp)]
        go_enter Tryz.func75, Tryz.ntmps75
        go_wp2_with fail
        rw [← HW.out]
        refine HS.out.mono ?_
        rintro e w1 ⟨rfl, hb⟩
        have HB1 := hid_of hb
        clear hb
        go_wp2_with fail
        go_ret
        exact ⟨rfl, HB.out.trans (HB1.out.mono HB.out.size)⟩
  · rw [if_neg hq]
    have e0 : (q == 0) = false := by simp [hq]
    go_enter Tryz.func75, Tryz.ntmps75
    go_wp2_with fail
    rw [← HW.out]
    refine HS.out.mono ?_
    rintro e w1 ⟨rfl, hb⟩
    have HB1 := hid_of hb
    clear hb
    go_wp2_with fail
    go_ret
    exact ⟨rfl, HB.out.trans (HB1.out.mono HB.out.size)⟩
set_option maxHeartbeats 1000000 in
set_option maxRecDepth 100000 in
theorem may1 {w : World} {a1 a2 a3 : Option Addr} {n1 c1 n2 c2 n3 c3 : Nat} {T : ByteArray} {k2 : Int} (key : Bs) (x : Vl) (d : Int) (h : VA w (.agg #[.int .i64 k2, .string T, .slice a1 n1 c1, .slice a2 n2 c2, .slice a3 n3 c3]) x) (hw : Wel x) :
    Calls Tryz.prog 87 #[.agg #[.int .i64 1, .string (mk key), .int .i64 k2, .string T, .slice a1 n1 c1, .slice a2 n2 c2, .slice a3 n3 c3, .int .i64 d]] w fun e w' => e = .returned (.bool (mayE ⟨1, key, x, d⟩)) ∧ Below w.heap.size w w' := by
  obtain ⟨W, hW⟩ : ∃ W, W = w.alloc (fO 1 k2 d (mk key) T (.slice a1 n1 c1) (.slice a2 n2 c2) (.slice a3 n3 c3)) := ⟨_, rfl⟩
  have HB := hid_of (show Below w.heap.size w W by rw [hW]; exact alb _ _)
  have HX := hid_of (show W.heap[w.heap.size]? = some (fO 1 k2 d (mk key) T (.slice a1 n1 c1) (.slice a2 n2 c2) (.slice a3 n3 c3)) by rw [hW]; exact heap_alloc_new w _)
  have HZ := hid_of (zero_call (h.below HB.out) hw)
  have HFi := hid_of (fit_call (h.below HB.out) hw d)
  have HW := hid_of hW
  have k0 := empty_list key
  have k1 := beq_list key
  have HM : Hid (mayE ⟨1, key, x, d⟩ = decide (fitE x d = 0)) := hid_of (by
    show (keyB true key && (dueOk d && decide (chk x = 0))) = _
    unfold fitE keyB
    by_cases hc : chk x = 0
    · rw [if_pos hc]
      cases dueOk d <;> simp [hc]
    · rw [if_neg hc]
      simp [hc])
  clear hW h
  rw [HM.out]
  generalize fitE x d = fe at *
  generalize mk key = K at *
  by_cases h0 : 0 ≤ d
  all_goals
    go_enter Tryz.func87, Tryz.ntmps87
    go_wp2_with fail
    rw [← HW.out]
    refine HFi.out.mono ?_
    rintro e w1 ⟨rfl, hb⟩
    have HB1 := hid_of hb
    clear hb
    go_wp2_with fail
    go_ret
    exact ⟨by first | rfl | (by_cases q : fe = 0 <;> simp [q]), HB.out.trans (HB1.out.mono HB.out.size)⟩
set_option maxHeartbeats 1000000 in
set_option maxRecDepth 100000 in
theorem may2 {w : World} {a1 a2 a3 : Option Addr} {n1 c1 n2 c2 n3 c3 : Nat} {T : ByteArray} {k2 : Int} (key : Bs) (x : Vl) (d : Int) (h : VA w (.agg #[.int .i64 k2, .string T, .slice a1 n1 c1, .slice a2 n2 c2, .slice a3 n3 c3]) x) (hw : Wel x) :
    Calls Tryz.prog 87 #[.agg #[.int .i64 2, .string (mk key), .int .i64 k2, .string T, .slice a1 n1 c1, .slice a2 n2 c2, .slice a3 n3 c3, .int .i64 d]] w fun e w' => e = .returned (.bool (mayE ⟨2, key, x, d⟩)) ∧ Below w.heap.size w w' := by
  obtain ⟨W, hW⟩ : ∃ W, W = w.alloc (fO 2 k2 d (mk key) T (.slice a1 n1 c1) (.slice a2 n2 c2) (.slice a3 n3 c3)) := ⟨_, rfl⟩
  have HB := hid_of (show Below w.heap.size w W by rw [hW]; exact alb _ _)
  have HX := hid_of (show W.heap[w.heap.size]? = some (fO 2 k2 d (mk key) T (.slice a1 n1 c1) (.slice a2 n2 c2) (.slice a3 n3 c3)) by rw [hW]; exact heap_alloc_new w _)
  have HZ := hid_of (zero_call (h.below HB.out) hw)
  have HFi := hid_of (fit_call (h.below HB.out) hw d)
  have HW := hid_of hW
  have k0 := empty_list key
  have k1 := beq_list key
  have HM : Hid (mayE ⟨2, key, x, d⟩ = (sm x zV && decide (d = 0))) := hid_of (by
    show (keyB true key && (decide (d = 0) && sm x zV)) = _
    unfold keyB
    cases sm x zV <;> simp)
  clear hW h HFi
  rw [HM.out]
  generalize sm x zV = z at *
  generalize mk key = K at *
  by_cases h0 : 0 ≤ d
  all_goals
    cases z
    · go_enter Tryz.func87, Tryz.ntmps87
      go_wp2_with fail
      rw [← HW.out]
      refine HZ.out.mono ?_
      rintro e w1 ⟨rfl, hb⟩
      have HB1 := hid_of hb
      clear hb
      go_wp2_with fail
      go_ret
      exact ⟨by simp, HB.out.trans (HB1.out.mono HB.out.size)⟩
    · go_enter Tryz.func87, Tryz.ntmps87
      go_wp2_with fail
      rw [← HW.out]
      refine HZ.out.mono ?_
      rintro e w1 ⟨rfl, hb⟩
      have HB1 := hid_of hb
      have c7 : w1.cell? ⟨w.heap.size, 7, none⟩ = some (.int .i64 d) := Lib.cell_of_heap ((hb.block _ (lt_of HX.out)).trans HX.out) 7
      clear hb
      go_wp2_with fail
      go_ret
      exact ⟨by first | rfl | (by_cases q : d = 0 <;> simp [q]), HB.out.trans (HB1.out.mono HB.out.size)⟩
set_option maxHeartbeats 1000000 in
set_option maxRecDepth 100000 in
theorem may3 {w : World} {a1 a2 a3 : Option Addr} {n1 c1 n2 c2 n3 c3 : Nat} {T : ByteArray} {k2 : Int} (key : Bs) (x : Vl) (d : Int) (h : VA w (.agg #[.int .i64 k2, .string T, .slice a1 n1 c1, .slice a2 n2 c2, .slice a3 n3 c3]) x) (hw : Wel x) :
    Calls Tryz.prog 87 #[.agg #[.int .i64 3, .string (mk key), .int .i64 k2, .string T, .slice a1 n1 c1, .slice a2 n2 c2, .slice a3 n3 c3, .int .i64 d]] w fun e w' => e = .returned (.bool (mayE ⟨3, key, x, d⟩)) ∧ Below w.heap.size w w' := by
  obtain ⟨W, hW⟩ : ∃ W, W = w.alloc (fO 3 k2 d (mk key) T (.slice a1 n1 c1) (.slice a2 n2 c2) (.slice a3 n3 c3)) := ⟨_, rfl⟩
  have HB := hid_of (show Below w.heap.size w W by rw [hW]; exact alb _ _)
  have HX := hid_of (show W.heap[w.heap.size]? = some (fO 3 k2 d (mk key) T (.slice a1 n1 c1) (.slice a2 n2 c2) (.slice a3 n3 c3)) by rw [hW]; exact heap_alloc_new w _)
  have HZ := hid_of (zero_call (h.below HB.out) hw)
  have HFi := hid_of (fit_call (h.below HB.out) hw d)
  have HW := hid_of hW
  have k0 := empty_list key
  have k1 := beq_list key
  have HM : Hid (mayE ⟨3, key, x, d⟩ = (sm x zV && dueOk d)) := hid_of (by
    show (keyB true key && (dueOk d && sm x zV)) = _
    unfold keyB
    cases sm x zV <;> simp)
  clear hW h HFi
  rw [HM.out]
  unfold dueOk
  generalize sm x zV = z at *
  generalize mk key = K at *
  by_cases h0 : 0 ≤ d
  all_goals
    cases z
    · go_enter Tryz.func87, Tryz.ntmps87
      go_wp2_with fail
      rw [← HW.out]
      refine HZ.out.mono ?_
      rintro e w1 ⟨rfl, hb⟩
      have HB1 := hid_of hb
      clear hb
      go_wp2_with fail
      go_ret
      exact ⟨by simp, HB.out.trans (HB1.out.mono HB.out.size)⟩
    · go_enter Tryz.func87, Tryz.ntmps87
      go_wp2_with fail
      rw [← HW.out]
      refine HZ.out.mono ?_
      rintro e w1 ⟨rfl, hb⟩
      have HB1 := hid_of hb
      clear hb
      go_wp2_with fail
      go_ret
      exact ⟨by first | (simp [h0]; done) | (simp [h0]; omega), HB.out.trans (HB1.out.mono HB.out.size)⟩
set_option maxHeartbeats 1000000 in
set_option maxRecDepth 100000 in
theorem may4 {w : World} {a1 a2 a3 : Option Addr} {n1 c1 n2 c2 n3 c3 : Nat} {T : ByteArray} {k2 : Int} (key : Bs) (x : Vl) (d : Int) (h : VA w (.agg #[.int .i64 k2, .string T, .slice a1 n1 c1, .slice a2 n2 c2, .slice a3 n3 c3]) x) (hw : Wel x) :
    Calls Tryz.prog 87 #[.agg #[.int .i64 4, .string (mk key), .int .i64 k2, .string T, .slice a1 n1 c1, .slice a2 n2 c2, .slice a3 n3 c3, .int .i64 d]] w fun e w' => e = .returned (.bool (mayE ⟨4, key, x, d⟩)) ∧ Below w.heap.size w w' := by
  obtain ⟨W, hW⟩ : ∃ W, W = w.alloc (fO 4 k2 d (mk key) T (.slice a1 n1 c1) (.slice a2 n2 c2) (.slice a3 n3 c3)) := ⟨_, rfl⟩
  have HB := hid_of (show Below w.heap.size w W by rw [hW]; exact alb _ _)
  have HX := hid_of (show W.heap[w.heap.size]? = some (fO 4 k2 d (mk key) T (.slice a1 n1 c1) (.slice a2 n2 c2) (.slice a3 n3 c3)) by rw [hW]; exact heap_alloc_new w _)
  have HZ := hid_of (zero_call (h.below HB.out) hw)
  have HFi := hid_of (fit_call (h.below HB.out) hw d)
  have HW := hid_of hW
  have k0 := empty_list key
  have k1 := beq_list key
  have HM : Hid (mayE ⟨4, key, x, d⟩ = (sm x zV && (decide (d = 0) && decide (key = [])))) := hid_of (by
    show (decide (key = []) && (decide (d = 0) && sm x zV)) = _
    cases sm x zV <;> cases decide (d = 0) <;> cases decide (key = []) <;> rfl)
  clear hW h HFi
  rw [HM.out]
  generalize sm x zV = z at *
  generalize decide (key = []) = ke at *
  generalize mk key = K at *
  by_cases h0 : 0 ≤ d
  all_goals
    cases z
    · go_enter Tryz.func87, Tryz.ntmps87
      go_wp2_with fail
      rw [← HW.out]
      refine HZ.out.mono ?_
      rintro e w1 ⟨rfl, hb⟩
      have HB1 := hid_of hb
      clear hb
      go_wp2_with fail
      go_ret
      exact ⟨by simp, HB.out.trans (HB1.out.mono HB.out.size)⟩
    · by_cases hd0 : d = 0
      · have e0 : (d == 0) = true := by simp [hd0]
        rw [decide_eq_true hd0]
        clear hd0
        go_enter Tryz.func87, Tryz.ntmps87
        go_wp2_with fail
        rw [← HW.out]
        refine HZ.out.mono ?_
        rintro e w1 ⟨rfl, hb⟩
        have HB1 := hid_of hb
        have c7 : w1.cell? ⟨w.heap.size, 7, none⟩ = some (.int .i64 d) := Lib.cell_of_heap ((hb.block _ (lt_of HX.out)).trans HX.out) 7
        have c1' : w1.cell? ⟨w.heap.size, 1, none⟩ = some (.string K) := Lib.cell_of_heap ((hb.block _ (lt_of HX.out)).trans HX.out) 1
        clear hb
        go_wp2_with fail
        go_ret
        exact ⟨by first | rfl | (simp [k0, k1]), HB.out.trans (HB1.out.mono HB.out.size)⟩
      · have e0 : (d == 0) = false := by simp [hd0]
        rw [decide_eq_false hd0]
        clear hd0
        go_enter Tryz.func87, Tryz.ntmps87
        go_wp2_with fail
        rw [← HW.out]
        refine HZ.out.mono ?_
        rintro e w1 ⟨rfl, hb⟩
        have HB1 := hid_of hb
        have c7 : w1.cell? ⟨w.heap.size, 7, none⟩ = some (.int .i64 d) := Lib.cell_of_heap ((hb.block _ (lt_of HX.out)).trans HX.out) 7
        clear hb
        go_wp2_with fail
        go_ret
        exact ⟨by simp, HB.out.trans (HB1.out.mono HB.out.size)⟩
set_option maxHeartbeats 1000000 in
set_option maxRecDepth 100000 in
theorem may0 {w : World} {a1 a2 a3 : Option Addr} {n1 c1 n2 c2 n3 c3 : Nat} {T : ByteArray} {k2 : Int} (key : Bs) (x : Vl) (d : Int) (kd : Int) (hk : okK kd = false) (h : VA w (.agg #[.int .i64 k2, .string T, .slice a1 n1 c1, .slice a2 n2 c2, .slice a3 n3 c3]) x) (hw : Wel x) :
    Calls Tryz.prog 87 #[.agg #[.int .i64 kd, .string (mk key), .int .i64 k2, .string T, .slice a1 n1 c1, .slice a2 n2 c2, .slice a3 n3 c3, .int .i64 d]] w fun e w' => e = .returned (.bool (mayE ⟨kd, key, x, d⟩)) ∧ Below w.heap.size w w' := by
  obtain ⟨W, hW⟩ : ∃ W, W = w.alloc (fO kd k2 d (mk key) T (.slice a1 n1 c1) (.slice a2 n2 c2) (.slice a3 n3 c3)) := ⟨_, rfl⟩
  have HB := hid_of (show Below w.heap.size w W by rw [hW]; exact alb _ _)
  have HX := hid_of (show W.heap[w.heap.size]? = some (fO kd k2 d (mk key) T (.slice a1 n1 c1) (.slice a2 n2 c2) (.slice a3 n3 c3)) by rw [hW]; exact heap_alloc_new w _)
  have HZ := hid_of (zero_call (h.below HB.out) hw)
  have HFi := hid_of (fit_call (h.below HB.out) hw d)
  have HW := hid_of hW
  have k0 := empty_list key
  have k1 := beq_list key
  have HM : Hid (mayE ⟨kd, key, x, d⟩ = false) := hid_of (by unfold mayE; rw [show okK kd = false from hk]; rfl)
  clear hW h HFi HZ
  rw [HM.out]
  unfold okK at hk
  simp only [Bool.or_eq_false_iff, decide_eq_false_iff_not] at hk
  obtain ⟨⟨⟨q1, q2⟩, q3⟩, q4⟩ := hk
  have e1 : (kd == 1) = false := by simp [q1]
  have e2 : (kd == 2) = false := by simp [q2]
  have e3 : (kd == 3) = false := by simp [q3]
  have e4 : (kd == 4) = false := by simp [q4]
  generalize mk key = K at *
  by_cases h0 : 0 ≤ d
  all_goals
    go_enter Tryz.func87, Tryz.ntmps87
    go_wp2_with fail
    rw [← HW.out]
    go_ret
    exact ⟨rfl, HB.out⟩
theorem rmay_call {w : World} {a1 a2 a3 : Option Addr} {n1 c1 n2 c2 n3 c3 : Nat} {T : ByteArray} {k2 : Int} {f : Ef} (h : VA w (.agg #[.int .i64 k2, .string T, .slice a1 n1 c1, .slice a2 n2 c2, .slice a3 n3 c3]) f.val) (hw : Wel f.val) :
    Calls Tryz.prog 87 #[.agg #[.int .i64 f.kind, .string (mk f.key), .int .i64 k2, .string T, .slice a1 n1 c1, .slice a2 n2 c2, .slice a3 n3 c3, .int .i64 f.due]] w fun e w' => e = .returned (.bool (mayE f)) ∧ Below w.heap.size w w' := by
  obtain ⟨kd, key, x, d⟩ := f
  cases hk : okK kd with
  | false => exact may0 key x d kd hk h hw
  | true =>
    have hc : kd = 1 ∨ kd = 2 ∨ kd = 3 ∨ kd = 4 := by
      unfold okK at hk
      simp only [Bool.or_eq_true, decide_eq_true_eq] at hk
      omega
    rcases hc with rfl | rfl | rfl | rfl
    · exact may1 key x d h hw
    · exact may2 key x d h hw
    · exact may3 key x d h hw
    · exact may4 key x d h hw
end Go.Proofs.YtpnigkjmofhmbaaGreat.FMay
end
section
namespace Go.Proofs.YtpnigkjmofhmbaaGreat.REnc
open Go.RowKit Go.Maps
open Go.Proofs.YtpnigkjmofhmbaaGreat.SetMath
open Go.Proofs.YtpnigkjmofhmbaaGreat.BytesMath
open Go.Proofs.YtpnigkjmofhmbaaGreat.FixMath
open Go.Proofs.YtpnigkjmofhmbaaGreat.ValueMath
open Go.Proofs.YtpnigkjmofhmbaaGreat.Base
open Go.Proofs.YtpnigkjmofhmbaaGreat.Vals
set_option linter.unusedVariables false
set_option linter.unusedSimpArgs false
/- a row of bytes of one's own -/
def OB (B : Nat) (w : World) (v : Value) (l : Bs) : Prop := w.ownsRow B 5 1 v l.length (Lib.byteCells l)
theorem OB.below {B : Nat} {w w' : World} {v : Value} {l : Bs} (h : OB B w v l) (hb : Below w.heap.size w w') : OB B w' v l := FRow.row_below h hb
theorem OB.shape {B : Nat} {w : World} {v : Value} {l : Bs} (h : OB B w v l) : ∃ a c, v = .slice a l.length c := by
  rcases h.2 with ⟨rfl, h0⟩ | ⟨g, c, cur, rfl, _⟩
  · exact ⟨none, 0, by rw [h0]⟩
  · exact ⟨_, c, rfl⟩
theorem info5 : (Tryz.prog.info? 5).map (fun i => (i.zero, i.size, i.bytes)) = some (some (.int .u8 0), 1, 1) := by kernel_rfl
theorem app_b {B : Nat} {w : World} {v : Value} {l : Bs} (t : Bs) (h : OB B w v l) (hB : B ≤ w.heap.size) (hlen : l.length + t.length ≤ 140737488355328) :
    ∃ a c w', (Builtin.append_ #[110, 9] 110 #[v, .string (mk t)]).run Tryz.prog w = .ok (.slice a (l ++ t).length c) w' ∧ OB B w' (.slice a (l ++ t).length c) (l ++ t) ∧ Below B w w' := by
  obtain ⟨i0, hi0, hz0, hz1, hz2⟩ := info_parts info5
  obtain ⟨v', w', hr, h2, h3, _⟩ := Lib.run_append_own_string (P := Tryz.prog) w B 110 9 110 5 i0 Tryz.underlying110 Tryz.underlying9 hi0 hz0 hz1 hz2 v _ _ h (mk t) (by unfold maxLen; rw [mk_size]; omega) (by rw [mk_size]; omega) hB
  have o : OB B w' v' (l ++ t) := by
    show w'.ownsRow B _ 1 v' (l ++ t).length (Lib.byteCells (l ++ t))
    rw [List.length_append, Lib.byteCells_append, ← mk_size t]
    exact h2
  obtain ⟨a, c, rfl⟩ := o.shape
  exact ⟨a, c, w', hr, o, (Below.refl B w).grown h3 hB (fun k hk => (World.ownsRow.lt h k hk).1)⟩
set_option maxHeartbeats 1000000 in
set_option maxRecDepth 100000 in
theorem four_call {B : Nat} {w : World} {v : Value} {l : Bs} (n : Nat) (h : OB B w v l) (hB : B ≤ w.heap.size) (hn : n < 4294967296) (hlen : l.length + 4 ≤ 140737488355328) :
    Calls Tryz.prog 143 #[v, .int .i64 n] w fun e w' => ∃ a c, e = .returned (.slice a (l ++ le4 n).length c) ∧ Hid (OB B w' (.slice a (l ++ le4 n).length c) (l ++ le4 n) ∧ Below B w w') := by
  have HF := hid_of (Fix.rfix_any n 4 w (by omega) (by omega) (by decide) (by decide))
  have hfit := Write.fits n 4 (by simpa using hn)
  have eS : Fix.fixS (n : Int) 4 = mk (le4 n) := by unfold Fix.fixS; rw [hfit]; rfl
  have eE : Fix.fixE (n : Int) 4 = 0 := by unfold Fix.fixE; rw [hfit]; rfl
  rw [eS, eE] at HF
  have HA := hid_of fun (W : World) (hW : Below w.heap.size w W) => And.intro (app_b (le4 n) (h.below hW) (Nat.le_trans hB hW.size) (by rw [len_le4]; exact hlen)) (hW.mono hB)
  have e1 : IntKind.u64.wrap (n : Int) = (n : Int) := by rw [IntKind.wrap_u64]; omega
  obtain ⟨a, c, rfl⟩ := h.shape
  generalize (l ++ le4 n).length = M at *
  generalize mk (le4 n) = X at *
  clear h hfit eS eE
  go_enter Tryz.func143, Tryz.ntmps143
  go_wp2_with fail
  refine HF.out.mono ?_
  rintro e w1 ⟨rfl, b1⟩
  obtain ⟨⟨a', c', w', hrun, o', bb⟩, bw⟩ := HA.out w1 b1
  have R := hid_of (And.intro o' (bw.trans bb))
  clear HA HF b1 o' bb bw
  go_wp2_with (at_builtin; refine wpl_eq rfl _ _ 110 9 rfl (.slice a l.length c) (.string X) (.slice a' M c') w1 w' rfl rfl hrun ?_)
  go_ret
  exact ⟨a', c', rfl, R⟩
set_option maxHeartbeats 1000000 in
set_option maxRecDepth 100000 in
theorem text_call {B : Nat} {w : World} {v : Value} {l : Bs} (t : Bs) (h : OB B w v l) (hB : B ≤ w.heap.size) (ht : t.length < 4294967296) (hlen : l.length + 4 + t.length ≤ 140737488355328) :
    Calls Tryz.prog 142 #[v, .string (mk t)] w fun e w' => ∃ a c, e = .returned (.slice a (l ++ encT t).length c) ∧ Hid (OB B w' (.slice a (l ++ encT t).length c) (l ++ encT t) ∧ Below B w w') := by
  have HF := hid_of (four_call t.length h hB ht (by omega))
  have HA := hid_of fun (W : World) (v' : Value) (hv : OB B W v' (l ++ le4 t.length)) (hBW : B ≤ W.heap.size) => app_b t hv hBW (by rw [List.length_append, len_le4]; omega)
  rw [List.append_assoc, show le4 t.length ++ t = encT t from rfl] at HA
  obtain ⟨a, c, rfl⟩ := h.shape
  have hs := mk_size t
  rw [← hs] at HF
  generalize (l ++ encT t).length = M at *
  obtain ⟨N, hN⟩ : ∃ N, N = (l ++ le4 (mk t).size).length := ⟨_, rfl⟩
  rw [← hN] at HF
  have HSS := hid_of hs
  generalize mk t = X at *
  clear h hN hs
  go_enter Tryz.func142, Tryz.ntmps142
  go_wp2_with fail
  refine HF.out.mono ?_
  rintro e w1 ⟨a1, c1, rfl, R1⟩
  obtain ⟨a', c', w', hrun, o', bb⟩ := HA.out w1 _ (by rw [← HSS.out]; exact R1.out.1) (Nat.le_trans hB R1.out.2.size)
  have R := hid_of (And.intro o' (R1.out.2.trans bb))
  clear HA HF R1 o' bb
  go_wp2_with (at_builtin; refine wpl_eq rfl _ _ 110 9 rfl (.slice a1 N c1) (.string X) (.slice a' M c') w1 w' rfl rfl hrun ?_)
  go_ret
  exact ⟨a', c', rfl, R⟩
end Go.Proofs.YtpnigkjmofhmbaaGreat.REnc
end
