/- The document's bytes of effects. The document's Encode of effects. -/
import Derived.Test.YtpnigkjmofhmbaaGreatFMayM
import Derived.Test.YtpnigkjmofhmbaaGreatREnc5M
import Derived.Laws.BytesArg
section
namespace Go.Proofs.YtpnigkjmofhmbaaGreat.FBytes
open Go.RowKit Go.Maps
open Go.Proofs.YtpnigkjmofhmbaaGreat.BytesMath
open Go.Proofs.YtpnigkjmofhmbaaGreat.FixMath
open Go.Proofs.YtpnigkjmofhmbaaGreat.ValueMath (Vl chk small sm enc)
open Go.Proofs.YtpnigkjmofhmbaaGreat.Base (mk mk_list mk_size bs mk_bs bs_mk hid_of)
open Go.Proofs.YtpnigkjmofhmbaaGreat.Turn
open Go.Proofs.YtpnigkjmofhmbaaGreat.Vals
open Go.Proofs.YtpnigkjmofhmbaaGreat.Check0 (Wel)
open Go.Proofs.YtpnigkjmofhmbaaGreat.SBase
open Go.Proofs.YtpnigkjmofhmbaaGreat.SFind (alb)
open Go.Proofs.YtpnigkjmofhmbaaGreat.SSet (box8)
open Go.Proofs.YtpnigkjmofhmbaaGreat.EMay
open Go.Proofs.YtpnigkjmofhmbaaGreat.EAll
open Go.Proofs.YtpnigkjmofhmbaaGreat.EWrite
open Go.Proofs.YtpnigkjmofhmbaaGreat.EEnc
set_option linter.unusedVariables false
set_option linter.unusedSimpArgs false
theorem mk_app (a b : Bs) : mk a ++ mk b = mk (a ++ b) := by
  rw [← mk_bs (mk a ++ mk b)]
  congr 1 <;> (unfold bs; simp [mk])
theorem cat (a b : Bs) (h : a.length + b.length ≤ 281474976710656) (w : World) : (binOp .add 9 (.string (mk a)) (.string (mk b))).run Tryz.prog w = .ok (.string (mk (a ++ b))) w := by
  have : (mk a).size + (mk b).size ≤ 9223372036854775807 := by rw [mk_size, mk_size]; omega
  rw [← mk_app]
  simp [binOp, go_sem, run_underlying Tryz.underlying9, this]
theorem rfix8 (u : Nat) (hu : u ≤ 9223372036854775807) (w : World) : Calls Tryz.prog 116 #[.int .u64 (u : Int), .int .i64 8] w fun e w' => e = .returned (.tuple #[.string (mk (leY (u : Int) 8)), .int .i64 0]) ∧ Below w.heap.size w w' := by
  have h := Fix.rfix_any (u : Int) 8 w (by omega) (by omega) (by decide) (by decide)
  have hfit := Write.fits u 8 (by omega)
  have eS : Fix.fixS (u : Int) 8 = mk (leY (u : Int) 8) := by unfold Fix.fixS; rw [hfit]; rfl
  have eE : Fix.fixE (u : Int) 8 = 0 := by unfold Fix.fixE; rw [hfit]; rfl
  rw [eS, eE] at h
  exact h
theorem conv1 (w : World) (c : UInt8) : (convert 110 9 (.slice (some ⟨w.heap.size, 0, none⟩) 1 1)).run Tryz.prog (w.alloc (.cells #[.int .u8 c.toNat] 5)) = .ok (.string (mk [c])) (w.alloc (.cells #[.int .u8 c.toNat] 5)) := by
  refine REnc2.conv_b (B := w.heap.size) (l := [c]) ?_ (by simp)
  refine ⟨rfl, .inr ⟨w.heap.size, 1, #[.int .u8 c.toNat], rfl, Nat.le_refl _, heap_alloc_new w _, Nat.le_refl _, by unfold maxLen; omega, rfl, rfl⟩⟩
set_option maxHeartbeats 1000000 in
set_option maxRecDepth 100000 in
theorem bytes4 (k2 : Int) (T : ByteArray) (a1 a2 a3 : Option Addr) (n1 c1 n2 c2 n3 c3 : Nat) (w : World) (hlen : ([4] ++ ([] ++ ([] ++ [])) : Bs).length ≤ 140737488355328) :
    Calls Tryz.prog 88 #[.agg #[.int .i64 4, .string ⟨#[]⟩, .int .i64 k2, .string T, .slice a1 n1 c1, .slice a2 n2 c2, .slice a3 n3 c3, .int .i64 0]] w fun e w' => e = .returned (.string (mk ([4] ++ ([] ++ ([] ++ [])) : Bs))) ∧ Below w.heap.size w w' := by
  obtain ⟨W0, hW0⟩ : ∃ W0, W0 = w.alloc (fO 4 k2 0 ⟨#[]⟩ T (.slice a1 n1 c1) (.slice a2 n2 c2) (.slice a3 n3 c3)) := ⟨_, rfl⟩
  have x0 : W0.heap[w.heap.size]? = some (fO 4 k2 0 ⟨#[]⟩ T (.slice a1 n1 c1) (.slice a2 n2 c2) (.slice a3 n3 c3)) := by rw [hW0]; exact heap_alloc_new w _
  have b0 : Below w.heap.size w W0 := by rw [hW0]; exact alb _ _
  obtain ⟨W1, hW1⟩ : ∃ W1, W1 = W0.alloc (.cells #[.int .u8 4] 5) := ⟨_, rfl⟩
  have b1 : Below W0.heap.size W0 W1 := by rw [hW1]; exact alb _ _
  have hcv : (convert 110 9 (.slice (some ⟨W0.heap.size, 0, none⟩) 1 1)).run Tryz.prog W1 = .ok (.string (mk [4])) W1 := by rw [hW1]; exact conv1 W0 4
  have sz0 : W0.heap.size = w.heap.size + 1 := by rw [hW0]; simp
  rw [sz0] at hcv
  have HB := hid_of (b0.trans (b1.mono b0.size))
  have HX1 := hid_of ((b1.block _ (lt_of x0)).trans x0)
  have HW1 := hid_of (show W1 = (w.alloc (fO 4 k2 0 ⟨#[]⟩ T (.slice a1 n1 c1) (.slice a2 n2 c2) (.slice a3 n3 c3))).alloc (.cells #[.int .u8 4] 5) by rw [hW1, hW0])
  rw [HW1.out] at hcv
  clear hW0 hW1 x0 b0 b1 sz0
  rw [show ([4] ++ ([] ++ ([] ++ [])) : Bs) = [4] from rfl]
  generalize mk [4] = S0 at *
  go_enter Tryz.func88, Tryz.ntmps88
  go_wp2_with fail
  rw [← HW1.out]
  go_ret
  exact ⟨rfl, HB.out⟩
set_option maxHeartbeats 1000000 in
set_option maxRecDepth 100000 in
theorem bytes2 (k : Bs) (k2 : Int) (T : ByteArray) (a1 a2 a3 : Option Addr) (n1 c1 n2 c2 n3 c3 : Nat) (w : World) (hlen : ([2] ++ ((leY (k.length : Int) 8 ++ k) ++ ([] ++ [])) : Bs).length ≤ 140737488355328) :
    Calls Tryz.prog 88 #[.agg #[.int .i64 2, .string (mk k), .int .i64 k2, .string T, .slice a1 n1 c1, .slice a2 n2 c2, .slice a3 n3 c3, .int .i64 0]] w fun e w' => e = .returned (.string (mk ([2] ++ ((leY (k.length : Int) 8 ++ k) ++ ([] ++ [])) : Bs))) ∧ Below w.heap.size w w' := by
  obtain ⟨W0, hW0⟩ : ∃ W0, W0 = w.alloc (fO 2 k2 0 (mk k) T (.slice a1 n1 c1) (.slice a2 n2 c2) (.slice a3 n3 c3)) := ⟨_, rfl⟩
  have x0 : W0.heap[w.heap.size]? = some (fO 2 k2 0 (mk k) T (.slice a1 n1 c1) (.slice a2 n2 c2) (.slice a3 n3 c3)) := by rw [hW0]; exact heap_alloc_new w _
  have b0 : Below w.heap.size w W0 := by rw [hW0]; exact alb _ _
  obtain ⟨W1, hW1⟩ : ∃ W1, W1 = W0.alloc (.cells #[.int .u8 2] 5) := ⟨_, rfl⟩
  have b1 : Below W0.heap.size W0 W1 := by rw [hW1]; exact alb _ _
  have hcv : (convert 110 9 (.slice (some ⟨W0.heap.size, 0, none⟩) 1 1)).run Tryz.prog W1 = .ok (.string (mk [2])) W1 := by rw [hW1]; exact conv1 W0 2
  have sz0 : W0.heap.size = w.heap.size + 1 := by rw [hW0]; simp
  rw [sz0] at hcv
  have HB := hid_of (b0.trans (b1.mono b0.size))
  have HX1 := hid_of ((b1.block _ (lt_of x0)).trans x0)
  have HW1 := hid_of (show W1 = (w.alloc (fO 2 k2 0 (mk k) T (.slice a1 n1 c1) (.slice a2 n2 c2) (.slice a3 n3 c3))).alloc (.cells #[.int .u8 2] 5) by rw [hW1, hW0])
  rw [HW1.out] at hcv
  clear hW0 hW1 x0 b0 b1 sz0
  have hkl : k.length ≤ 140737488355328 := by simp only [List.length_append, List.length_cons, List.length_nil, leY_len] at hlen; omega
  have HF1 := hid_of (rfix8 k.length (by omega))
  have hsz : (mk k).size = k.length := mk_size k
  have hwr : IntKind.u64.wrap ((mk k).size : Int) = (k.length : Int) := by rw [hsz]; exact IntWalk.u64_in _ (by omega)
  have sm1 : (mk [2]).size + (mk (leY (k.length : Int) 8)).size ≤ 9223372036854775807 := by simp only [mk_size, List.length_append, List.length_cons, List.length_nil, leY_len] at hlen ⊢; omega
  have sn1 : (mk [2]).size + (mk (leY (k.length : Int) 8)).size ≤ 9223372036854775807 := by simp only [mk_app, mk_size, List.length_append, List.length_cons, List.length_nil, leY_len] at hlen ⊢; omega
  have sm2 : (mk [2]).size + (mk (leY (k.length : Int) 8)).size + (mk k).size ≤ 9223372036854775807 := by simp only [mk_size, List.length_append, List.length_cons, List.length_nil, leY_len] at hlen ⊢; omega
  have sn2 : ((mk [2] ++ mk (leY (k.length : Int) 8))).size + (mk k).size ≤ 9223372036854775807 := by simp only [mk_app, mk_size, List.length_append, List.length_cons, List.length_nil, leY_len] at hlen ⊢; omega
  have HFin : Hid (mk [2] ++ mk (leY (k.length : Int) 8) ++ mk k = mk ([2] ++ ((leY (k.length : Int) 8 ++ k) ++ ([] ++ [])) : Bs)) := hid_of (by simp only [mk_app]; congr 1 <;> simp [List.append_assoc])
  rw [← HFin.out]
  clear hsz hkl HFin hlen
  generalize mk [2] = S0 at *
  generalize mk (leY (k.length : Int) 8) = SK at *
  generalize mk k = KK at *
  go_enter Tryz.func88, Tryz.ntmps88
  go_wp2_with fail
  rw [← HW1.out]
  refine (HF1.out W1).mono ?_
  rintro e w2 ⟨rfl, hb2⟩
  have HB2 := hid_of (HB.out.trans (hb2.mono HB.out.size))
  have x2 := (hb2.block _ (lt_of HX1.out)).trans HX1.out
  have HX2 := hid_of x2
  obtain ⟨⟨y0, y1, y2, y3, y4, y5, y6, y7⟩, -⟩ := box8 x2
  clear hb2 x2 HF1 hcv
  go_wp2_with fail
  go_ret
  exact ⟨rfl, HB2.out⟩
set_option maxHeartbeats 1000000 in
set_option maxRecDepth 100000 in
theorem bytes3 (k : Bs) (d : Nat) (hd : d ≤ 9007199254740992) (k2 : Int) (T : ByteArray) (a1 a2 a3 : Option Addr) (n1 c1 n2 c2 n3 c3 : Nat) (w : World) (hlen : ([3] ++ ((leY (k.length : Int) 8 ++ k) ++ (leY (d : Int) 8 ++ [])) : Bs).length ≤ 140737488355328) :
    Calls Tryz.prog 88 #[.agg #[.int .i64 3, .string (mk k), .int .i64 k2, .string T, .slice a1 n1 c1, .slice a2 n2 c2, .slice a3 n3 c3, .int .i64 (d : Int)]] w fun e w' => e = .returned (.string (mk ([3] ++ ((leY (k.length : Int) 8 ++ k) ++ (leY (d : Int) 8 ++ [])) : Bs))) ∧ Below w.heap.size w w' := by
  obtain ⟨W0, hW0⟩ : ∃ W0, W0 = w.alloc (fO 3 k2 (d : Int) (mk k) T (.slice a1 n1 c1) (.slice a2 n2 c2) (.slice a3 n3 c3)) := ⟨_, rfl⟩
  have x0 : W0.heap[w.heap.size]? = some (fO 3 k2 (d : Int) (mk k) T (.slice a1 n1 c1) (.slice a2 n2 c2) (.slice a3 n3 c3)) := by rw [hW0]; exact heap_alloc_new w _
  have b0 : Below w.heap.size w W0 := by rw [hW0]; exact alb _ _
  obtain ⟨W1, hW1⟩ : ∃ W1, W1 = W0.alloc (.cells #[.int .u8 3] 5) := ⟨_, rfl⟩
  have b1 : Below W0.heap.size W0 W1 := by rw [hW1]; exact alb _ _
  have hcv : (convert 110 9 (.slice (some ⟨W0.heap.size, 0, none⟩) 1 1)).run Tryz.prog W1 = .ok (.string (mk [3])) W1 := by rw [hW1]; exact conv1 W0 3
  have sz0 : W0.heap.size = w.heap.size + 1 := by rw [hW0]; simp
  rw [sz0] at hcv
  have HB := hid_of (b0.trans (b1.mono b0.size))
  have HX1 := hid_of ((b1.block _ (lt_of x0)).trans x0)
  have HW1 := hid_of (show W1 = (w.alloc (fO 3 k2 (d : Int) (mk k) T (.slice a1 n1 c1) (.slice a2 n2 c2) (.slice a3 n3 c3))).alloc (.cells #[.int .u8 3] 5) by rw [hW1, hW0])
  rw [HW1.out] at hcv
  clear hW0 hW1 x0 b0 b1 sz0
  have hkl : k.length ≤ 140737488355328 := by simp only [List.length_append, List.length_cons, List.length_nil, leY_len] at hlen; omega
  have HF1 := hid_of (rfix8 k.length (by omega))
  have hsz : (mk k).size = k.length := mk_size k
  have hwr : IntKind.u64.wrap ((mk k).size : Int) = (k.length : Int) := by rw [hsz]; exact IntWalk.u64_in _ (by omega)
  have HF2 := hid_of (rfix8 d (by omega))
  have hwd : IntKind.u64.wrap (d : Int) = (d : Int) := IntWalk.u64_in _ (by omega)
  have sm1 : (mk [3]).size + (mk (leY (k.length : Int) 8)).size ≤ 9223372036854775807 := by simp only [mk_size, List.length_append, List.length_cons, List.length_nil, leY_len] at hlen ⊢; omega
  have sn1 : (mk [3]).size + (mk (leY (k.length : Int) 8)).size ≤ 9223372036854775807 := by simp only [mk_app, mk_size, List.length_append, List.length_cons, List.length_nil, leY_len] at hlen ⊢; omega
  have sm2 : (mk [3]).size + (mk (leY (k.length : Int) 8)).size + (mk k).size ≤ 9223372036854775807 := by simp only [mk_size, List.length_append, List.length_cons, List.length_nil, leY_len] at hlen ⊢; omega
  have sn2 : ((mk [3] ++ mk (leY (k.length : Int) 8))).size + (mk k).size ≤ 9223372036854775807 := by simp only [mk_app, mk_size, List.length_append, List.length_cons, List.length_nil, leY_len] at hlen ⊢; omega
  have sm3 : (mk [3]).size + (mk (leY (k.length : Int) 8)).size + (mk k).size + (mk (leY (d : Int) 8)).size ≤ 9223372036854775807 := by simp only [mk_size, List.length_append, List.length_cons, List.length_nil, leY_len] at hlen ⊢; omega
  have sn3 : ((mk [3] ++ mk (leY (k.length : Int) 8) ++ mk k)).size + (mk (leY (d : Int) 8)).size ≤ 9223372036854775807 := by simp only [mk_app, mk_size, List.length_append, List.length_cons, List.length_nil, leY_len] at hlen ⊢; omega
  have HFin : Hid (mk [3] ++ mk (leY (k.length : Int) 8) ++ mk k ++ mk (leY (d : Int) 8) = mk ([3] ++ ((leY (k.length : Int) 8 ++ k) ++ (leY (d : Int) 8 ++ [])) : Bs)) := hid_of (by simp only [mk_app]; congr 1 <;> simp [List.append_assoc])
  rw [← HFin.out]
  clear hsz hkl HFin hlen
  generalize mk [3] = S0 at *
  generalize mk (leY (k.length : Int) 8) = SK at *
  generalize mk (leY (d : Int) 8) = SD at *
  generalize mk k = KK at *
  go_enter Tryz.func88, Tryz.ntmps88
  go_wp2_with fail
  rw [← HW1.out]
  refine (HF1.out W1).mono ?_
  rintro e w2 ⟨rfl, hb2⟩
  have HB2 := hid_of (HB.out.trans (hb2.mono HB.out.size))
  have x2 := (hb2.block _ (lt_of HX1.out)).trans HX1.out
  have HX2 := hid_of x2
  obtain ⟨⟨y0, y1, y2, y3, y4, y5, y6, y7⟩, -⟩ := box8 x2
  clear hb2 x2 HF1 hcv
  go_wp2_with fail
  refine (HF2.out w2).mono ?_
  rintro e w3 ⟨rfl, hb3⟩
  have HB3 := hid_of (HB2.out.trans (hb3.mono HB2.out.size))
  have x3 := (hb3.block _ (lt_of HX2.out)).trans HX2.out
  have HX3 := hid_of x3
  clear y0 y1 y2 y3 y4 y5 y6 y7
  obtain ⟨⟨y0, y1, y2, y3, y4, y5, y6, y7⟩, -⟩ := box8 x3
  clear hb3 x3 HF2
  go_wp2_with fail
  go_ret
  exact ⟨rfl, HB3.out⟩
set_option maxHeartbeats 1000000 in
set_option maxRecDepth 100000 in
theorem bytes1 (k : Bs) (d : Nat) (hd : d ≤ 9007199254740992) (k2 : Int) (T : ByteArray) (a1 a2 a3 : Option Addr) (n1 c1 n2 c2 n3 c3 : Nat) (x : Vl) (hx0 : chk x = 0) (hxw : Wel x) (hxs : small x) (w : World) (hv : VA w (.agg #[.int .i64 k2, .string T, .slice a1 n1 c1, .slice a2 n2 c2, .slice a3 n3 c3]) x) (hlen : ([1] ++ ((leY (k.length : Int) 8 ++ k) ++ (leY (d : Int) 8 ++ enc x)) : Bs).length ≤ 140737488355328) :
    Calls Tryz.prog 88 #[.agg #[.int .i64 1, .string (mk k), .int .i64 k2, .string T, .slice a1 n1 c1, .slice a2 n2 c2, .slice a3 n3 c3, .int .i64 (d : Int)]] w fun e w' => e = .returned (.string (mk ([1] ++ ((leY (k.length : Int) 8 ++ k) ++ (leY (d : Int) 8 ++ enc x)) : Bs))) ∧ Below w.heap.size w w' := by
  obtain ⟨W0, hW0⟩ : ∃ W0, W0 = w.alloc (fO 1 k2 (d : Int) (mk k) T (.slice a1 n1 c1) (.slice a2 n2 c2) (.slice a3 n3 c3)) := ⟨_, rfl⟩
  have x0 : W0.heap[w.heap.size]? = some (fO 1 k2 (d : Int) (mk k) T (.slice a1 n1 c1) (.slice a2 n2 c2) (.slice a3 n3 c3)) := by rw [hW0]; exact heap_alloc_new w _
  have b0 : Below w.heap.size w W0 := by rw [hW0]; exact alb _ _
  obtain ⟨W1, hW1⟩ : ∃ W1, W1 = W0.alloc (.cells #[.int .u8 1] 5) := ⟨_, rfl⟩
  have b1 : Below W0.heap.size W0 W1 := by rw [hW1]; exact alb _ _
  have hcv : (convert 110 9 (.slice (some ⟨W0.heap.size, 0, none⟩) 1 1)).run Tryz.prog W1 = .ok (.string (mk [1])) W1 := by rw [hW1]; exact conv1 W0 1
  have sz0 : W0.heap.size = w.heap.size + 1 := by rw [hW0]; simp
  rw [sz0] at hcv
  have HB := hid_of (b0.trans (b1.mono b0.size))
  have HX1 := hid_of ((b1.block _ (lt_of x0)).trans x0)
  have HW1 := hid_of (show W1 = (w.alloc (fO 1 k2 (d : Int) (mk k) T (.slice a1 n1 c1) (.slice a2 n2 c2) (.slice a3 n3 c3))).alloc (.cells #[.int .u8 1] 5) by rw [hW1, hW0])
  rw [HW1.out] at hcv
  clear hW0 hW1 x0 b0 b1 sz0
  have hkl : k.length ≤ 140737488355328 := by simp only [List.length_append, List.length_cons, List.length_nil, leY_len] at hlen; omega
  have HF1 := hid_of (rfix8 k.length (by omega))
  have hsz : (mk k).size = k.length := mk_size k
  have hwr : IntKind.u64.wrap ((mk k).size : Int) = (k.length : Int) := by rw [hsz]; exact IntWalk.u64_in _ (by omega)
  have HF2 := hid_of (rfix8 d (by omega))
  have hwd : IntKind.u64.wrap (d : Int) = (d : Int) := IntWalk.u64_in _ (by omega)
  have hel : (enc x).length ≤ 140737488355328 := by simp only [List.length_append, List.length_cons, List.length_nil, leY_len] at hlen; omega
  have HEn : Hid (∀ W, Below w.heap.size w W → Calls Tryz.prog 117 #[.agg #[.int .i64 k2, .string T, .slice a1 n1 c1, .slice a2 n2 c2, .slice a3 n3 c3]] W fun e w' => e = .returned (.tuple #[.string (mk (enc x)), .int .i64 0]) ∧ Below W.heap.size W w') := hid_of fun W hW => by
    have := REncF.rencode_call (hv.below hW) hxw hxs hel
    rw [hx0] at this
    have e : Enc.encV x = enc x := by unfold Enc.encV; rw [if_pos hx0]
    rw [e] at this
    exact this
  have sm1 : (mk [1]).size + (mk (leY (k.length : Int) 8)).size ≤ 9223372036854775807 := by simp only [mk_size, List.length_append, List.length_cons, List.length_nil, leY_len] at hlen ⊢; omega
  have sn1 : (mk [1]).size + (mk (leY (k.length : Int) 8)).size ≤ 9223372036854775807 := by simp only [mk_app, mk_size, List.length_append, List.length_cons, List.length_nil, leY_len] at hlen ⊢; omega
  have sm2 : (mk [1]).size + (mk (leY (k.length : Int) 8)).size + (mk k).size ≤ 9223372036854775807 := by simp only [mk_size, List.length_append, List.length_cons, List.length_nil, leY_len] at hlen ⊢; omega
  have sn2 : ((mk [1] ++ mk (leY (k.length : Int) 8))).size + (mk k).size ≤ 9223372036854775807 := by simp only [mk_app, mk_size, List.length_append, List.length_cons, List.length_nil, leY_len] at hlen ⊢; omega
  have sm3 : (mk [1]).size + (mk (leY (k.length : Int) 8)).size + (mk k).size + (mk (leY (d : Int) 8)).size ≤ 9223372036854775807 := by simp only [mk_size, List.length_append, List.length_cons, List.length_nil, leY_len] at hlen ⊢; omega
  have sn3 : ((mk [1] ++ mk (leY (k.length : Int) 8) ++ mk k)).size + (mk (leY (d : Int) 8)).size ≤ 9223372036854775807 := by simp only [mk_app, mk_size, List.length_append, List.length_cons, List.length_nil, leY_len] at hlen ⊢; omega
  have sm4 : (mk [1]).size + (mk (leY (k.length : Int) 8)).size + (mk k).size + (mk (leY (d : Int) 8)).size + (mk (enc x)).size ≤ 9223372036854775807 := by simp only [mk_size, List.length_append, List.length_cons, List.length_nil, leY_len] at hlen ⊢; omega
  have sn4 : ((mk [1] ++ mk (leY (k.length : Int) 8) ++ mk k ++ mk (leY (d : Int) 8))).size + (mk (enc x)).size ≤ 9223372036854775807 := by simp only [mk_app, mk_size, List.length_append, List.length_cons, List.length_nil, leY_len] at hlen ⊢; omega
  have HFin : Hid (mk [1] ++ mk (leY (k.length : Int) 8) ++ mk k ++ mk (leY (d : Int) 8) ++ mk (enc x) = mk ([1] ++ ((leY (k.length : Int) 8 ++ k) ++ (leY (d : Int) 8 ++ enc x)) : Bs)) := hid_of (by simp only [mk_app]; congr 1 <;> simp [List.append_assoc])
  rw [← HFin.out]
  clear hsz hkl HFin hlen
  clear hv hel hx0 hxw hxs
  generalize mk [1] = S0 at *
  generalize mk (leY (k.length : Int) 8) = SK at *
  generalize mk (leY (d : Int) 8) = SD at *
  generalize mk (enc x) = SV at *
  generalize mk k = KK at *
  go_enter Tryz.func88, Tryz.ntmps88
  go_wp2_with fail
  rw [← HW1.out]
  refine (HF1.out W1).mono ?_
  rintro e w2 ⟨rfl, hb2⟩
  have HB2 := hid_of (HB.out.trans (hb2.mono HB.out.size))
  have x2 := (hb2.block _ (lt_of HX1.out)).trans HX1.out
  have HX2 := hid_of x2
  obtain ⟨⟨y0, y1, y2, y3, y4, y5, y6, y7⟩, -⟩ := box8 x2
  clear hb2 x2 HF1 hcv
  go_wp2_with fail
  refine (HF2.out w2).mono ?_
  rintro e w3 ⟨rfl, hb3⟩
  have HB3 := hid_of (HB2.out.trans (hb3.mono HB2.out.size))
  have x3 := (hb3.block _ (lt_of HX2.out)).trans HX2.out
  have HX3 := hid_of x3
  clear y0 y1 y2 y3 y4 y5 y6 y7
  obtain ⟨⟨y0, y1, y2, y3, y4, y5, y6, y7⟩, -⟩ := box8 x3
  clear hb3 x3 HF2
  go_wp2_with fail
  refine (HEn.out w3 HB3.out).mono ?_
  rintro e w4 ⟨rfl, hb4⟩
  have HB4 := hid_of (HB3.out.trans (hb4.mono HB3.out.size))
  clear y0 y1 y2 y3 y4 y5 y6 y7 hb4 HEn
  go_wp2_with fail
  go_ret
  exact ⟨rfl, HB4.out⟩
theorem rbytes_call (f : Ef) (hf : mayE f = true) (hn : Nice f) (k2 : Int) (T : ByteArray) (a1 a2 a3 : Option Addr) (n1 c1 n2 c2 n3 c3 : Nat) (w : World) (hv : VA w (.agg #[.int .i64 k2, .string T, .slice a1 n1 c1, .slice a2 n2 c2, .slice a3 n3 c3]) f.val) (hlen : (encE f).length ≤ 140737488355328) :
    Calls Tryz.prog 88 #[.agg #[.int .i64 f.kind, .string (mk f.key), .int .i64 k2, .string T, .slice a1 n1 c1, .slice a2 n2 c2, .slice a3 n3 c3, .int .i64 f.due]] w fun e w' => e = .returned (.string (mk (encE f))) ∧ Below w.heap.size w w' := by
  obtain ⟨h1, h2, h3, h4⟩ := may_parts hf
  obtain ⟨q1, q2, q3⟩ := hn
  obtain ⟨kd, key, val, due⟩ := f
  simp only at *
  clear hf
  have hc : kd = 1 ∨ kd = 2 ∨ kd = 3 ∨ kd = 4 := by
    unfold okK at h1
    simp only [Bool.or_eq_true, decide_eq_true_eq] at h1
    omega
  rcases hc with rfl | rfl | rfl | rfl
  · obtain ⟨d, rfl, hd⟩ := due_nat (show dueOk due = true from h3)
    have hx : chk val = 0 := of_decide_eq_true (show decide (chk val = 0) = true from h4)
    exact bytes1 key d hd k2 T a1 a2 a3 n1 c1 n2 c2 n3 c3 val hx q2 q3 w hv hlen
  · obtain rfl : due = 0 := of_decide_eq_true (show decide (due = 0) = true from h3)
    exact bytes2 key k2 T a1 a2 a3 n1 c1 n2 c2 n3 c3 w hlen
  · obtain ⟨d, rfl, hd⟩ := due_nat (show dueOk due = true from h3)
    exact bytes3 key d hd k2 T a1 a2 a3 n1 c1 n2 c2 n3 c3 w hlen
  · obtain rfl : due = 0 := of_decide_eq_true (show decide (due = 0) = true from h3)
    obtain rfl : key = [] := of_decide_eq_true (show decide (key = []) = true from h2)
    exact bytes4 k2 T a1 a2 a3 n1 c1 n2 c2 n3 c3 w hlen
end Go.Proofs.YtpnigkjmofhmbaaGreat.FBytes
end
section
namespace Go.Proofs.YtpnigkjmofhmbaaGreat.FEnc
open Go.RowKit Go.Maps
open Go.Proofs.YtpnigkjmofhmbaaGreat.ValueMath (Vl chk small sm enc)
open Go.Proofs.YtpnigkjmofhmbaaGreat.Base (mk mk_list mk_size hid_of wpl_eq)
open Go.Proofs.YtpnigkjmofhmbaaGreat.Turn
open Go.Proofs.YtpnigkjmofhmbaaGreat.Vals
open Go.Proofs.YtpnigkjmofhmbaaGreat.Check0 (Wel)
open Go.Proofs.YtpnigkjmofhmbaaGreat.SBase
open Go.Proofs.YtpnigkjmofhmbaaGreat.SFind (alb)
open Go.Proofs.YtpnigkjmofhmbaaGreat.EMay
open Go.Proofs.YtpnigkjmofhmbaaGreat.EAll
open Go.Proofs.YtpnigkjmofhmbaaGreat.EWrite
open Go.Proofs.YtpnigkjmofhmbaaGreat.EEnc
open Go.Proofs.YtpnigkjmofhmbaaGreat.REnc (OB app_b)
set_option linter.unusedVariables false
set_option linter.unusedSimpArgs false
theorem conv_any {B : Nat} {w : World} {a : Option Addr} {n c : Nat} {l : Bs} (h : OB B w (.slice a n c) l) : (convert 110 9 (.slice a n c)).run Tryz.prog w = .ok (.string (mk l)) w := by
  by_cases hl : l = []
  · subst hl
    rcases h.2 with ⟨e, _⟩ | ⟨g, cap, cur, e, hb, hg, q1, q2, q3, q4⟩
    · cases e
      exact run_convert_bytes_nil (P := Tryz.prog) (w := w) 110 5 Tryz.underlying110 Tryz.underlying5 0 0 9 Tryz.underlying9
    · cases e
      exact run_convert_bytes_back (P := Tryz.prog) w 110 9 5 ⟨g, 0, none⟩ c [] Tryz.underlying110 Tryz.underlying5 Tryz.underlying9 (fun j hj => by simp at hj)
  · exact REnc2.conv_b h hl
set_option maxHeartbeats 2000000 in
set_option maxRecDepth 100000 in
theorem rencode_call {w : World} {v : Value} {l : List Ef} (h : FSl w v l) (hn : ∀ f ∈ l, Nice f) (hl : l.length < 1099511627776) (hlen : (encL l).length ≤ 140737488355328) :
    Calls Tryz.prog 49 #[v] w fun e w' => e = .returned (.tuple #[.string (mk (EEnc.encS l)), .int .i64 (encN l)]) ∧ Below w.heap.size w w' := by
  obtain ⟨a, c, rfl, hc, h⟩ := h
  have HR := hid_of h
  have HNi := hid_of hn
  have HLen := hid_of hlen
  clear h hn hlen
  go_enter Tryz.func49, Tryz.ntmps49
  go_wp2_with fail
  go_loopg [4, 5] l.length (fun g vo si wx => ∃ k : Nat, k ≤ l.length ∧ l.length ≤ k + g ∧ si = .int .i64 (k : Int) ∧ Hid (Below w.heap.size w wx) ∧ Hid (OB w.heap.size wx vo (encL (l.take k))) ∧ Hid (allE (l.take k) = true))
  case atStart => exact ⟨0, by omega, by omega, rfl, hid_of (Below.refl _ _), hid_of (World.ownsRow_nil _ _ _ _), hid_of rfl⟩
  case round =>
    obtain ⟨k, hk, hg, rfl, HN, HO, HA⟩ := hrel
    obtain ⟨oa, oc, rfl⟩ := HO.out.shape
    by_cases hlt : k < l.length
    · obtain ⟨g', rfl⟩ : ∃ g', gk = g' + 1 := ⟨gk - 1, by omega⟩
      obtain ⟨gb, o, rfl, hcs⟩ : ∃ g o, a = some ⟨g, o, none⟩ ∧ ∀ k (h : k < l.length), FAt w g (o + k * 8) (l[k]'h) := by
        rcases HR.out with h | h
        · rw [h] at hlt; simp at hlt
        · exact h
      have hfk := hcs k hlt
      obtain ⟨a1, n1, c1, a2, n2, c2, a3, n3, c3, k2, T, h0, h1, h2, h3, h4, h5, h6, h7, hv⟩ := hfk.below HN.out
      have e2 : IntKind.i64.wrap ((k : Int) + 1) = (k : Int) + 1 := IntWalk.i64_in _ (by omega)
      have g2 : (k : Int) < (l.length : Int) := by omega
      have hni := HNi.out _ (List.getElem_mem hlt)
      have HM := hid_of (FMay.rmay_call hv hni.wel)
      have HV := hid_of (fun (W : World) (hW : Below wr.heap.size wr W) (hf : mayE (l[k]'hlt) = true) => FBytes.rbytes_call (l[k]'hlt) hf hni k2 T a1 a2 a3 n1 c1 n2 c2 n3 c3 W (hv.below hW) (Nat.le_trans (Nat.le_trans (Nat.le_add_left _ _) (enc_le l k hlt)) HLen.out))
      have HAp := hid_of (fun (W : World) (hW : Below wr.heap.size wr W) => app_b (encE (l[k]'hlt)) (HO.out.below hW) (Nat.le_trans HN.out.size hW.size) (Nat.le_trans (enc_le l k hlt) HLen.out))
      have HT := hid_of (show allE (l.take (k + 1)) = mayE (l[k]'hlt) by
        have := HA.out
        unfold allE at *
        rw [List.take_succ_eq_append_getElem hlt, List.all_append, this]
        simp)
      have HF : Hid (mayE (l[k]'hlt) = false → EEnc.encS l = [] ∧ encN l = 160) := hid_of fun q => by
        have : allE l = false := by
          unfold allE
          rw [List.all_eq_false]
          exact ⟨_, List.getElem_mem hlt, by rw [q]; simp⟩
        unfold EEnc.encS encN
        rw [this]
        exact ⟨rfl, rfl⟩
      have HET := hid_of (enc_take l k hlt)
      generalize hmy : mayE (l[k]'hlt) = my at *
      generalize (l[k]'hlt).kind = kd at *
      generalize (l[k]'hlt).due = d at *
      generalize mk (l[k]'hlt).key = K at *
      clear hcs hv hfk hmy hni
      go_wp2_with fail
      refine HM.out.mono ?_
      rintro e w2 ⟨rfl, hb2⟩
      have HB2 := hid_of hb2
      have h0 := FRow.cell_on hb2 h0
      have h1 := FRow.cell_on hb2 h1
      have h2 := FRow.cell_on hb2 h2
      have h3 := FRow.cell_on hb2 h3
      have h4 := FRow.cell_on hb2 h4
      have h5 := FRow.cell_on hb2 h5
      have h6 := FRow.cell_on hb2 h6
      have h7 := FRow.cell_on hb2 h7
      clear hb2 HM
      cases my
      · go_wp2_with fail
        go_ret2
        obtain ⟨q1, q2⟩ := HF.out (by first | rfl | trivial)
        exact ⟨by rw [q1, q2]; rfl, HN.out.trans (HB2.out.mono HN.out.size)⟩
      · have HV2 := hid_of (HV.out w2 HB2.out (by first | rfl | trivial))
        go_wp2_with fail
        refine HV2.out.mono ?_
        rintro e w3 ⟨rfl, hb3⟩
        have hb3w : Below wr.heap.size wr w3 := HB2.out.trans (hb3.mono HB2.out.size)
        obtain ⟨a', c', w4, hrun, ho, hb4⟩ := HAp.out w3 hb3w
        have HO4 := hid_of ho
        have HN4 := hid_of ((HN.out.trans (hb3w.mono HN.out.size)).trans hb4)
        rw [← HET.out] at HO4 hrun
        generalize (encL (l.take (k + 1))).length = M at *
        generalize (encL (l.take k)).length = M0 at *
        generalize mk (encE (l[k]'hlt)) = EX at *
        clear ho hb4 hb3 hb3w HV HV2 HAp h0 h1 h2 h3 h4 h5 h6 h7
        go_wp2_with (at_builtin; refine wpl_eq rfl _ _ 110 9 rfl (.slice oa M0 oc) (.string EX) (.slice a' M c') w3 w4 rfl rfl hrun ?_)
        go_roundg g'
        case measure => omega
        case rel => exact ⟨k + 1, by omega, by omega, by rw [show ((k + 1 : Nat) : Int) = (k : Int) + 1 from by omega], HN4, HO4, HT⟩
    · obtain rfl : k = l.length := by omega
      have gi : ¬ (l.length : Int) < (l.length : Int) := by omega
      have ho := HO.out
      rw [List.take_length] at ho ⊢
      have hall := HA.out
      rw [List.take_length] at hall
      have hcv := conv_any ho
      have HS : Hid (EEnc.encS l = encL l ∧ encN l = 0) := hid_of (by unfold EEnc.encS encN; rw [hall]; exact ⟨rfl, rfl⟩)
      obtain ⟨EX, HEX⟩ : ∃ EX, Hid (mk (encL l) = EX) := ⟨_, hid_of rfl⟩
      rw [HEX.out] at hcv
      generalize (encL l).length = M at *
      clear ho hall
      go_wp2_with fail
      go_ret2
      exact ⟨by rw [HS.out.1, HS.out.2, HEX.out]; rfl, HN.out⟩
end Go.Proofs.YtpnigkjmofhmbaaGreat.FEnc
end
