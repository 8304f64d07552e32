/- The law BlobSums, walked. -/
import Derived.Test.YtdkdjgpeeglbhabDoorZeros
namespace Go.Proofs.YtdkdjgpeeglbhabDoor.LawSums
open Go.RowKit
open Go.Proofs.YtdkdjgpeeglbhabDoor.BlobMath
open Go.Proofs.YtdkdjgpeeglbhabDoor.Span
open Go.Proofs.YtdkdjgpeeglbhabDoor.Bits
open Go.Proofs.YtdkdjgpeeglbhabDoor.Reads
open Go.Proofs.YtdkdjgpeeglbhabDoor.Mem
open Go.Proofs.YtdkdjgpeeglbhabDoor.Opp
open Go.Proofs.YtdkdjgpeeglbhabDoor.Zeros
open Go.Proofs.YtdkdjgpeeglbhabDoor.Parse
set_option linter.unusedVariables false
set_option linter.unusedSimpArgs false

/-! ### the numbers -/
theorem pc_zero : pc 0 = 0 := by decide
def pairQ (a b : Nat) : Bool := decide (pc (a &&& b) + pc (a ||| b) = pc a + pc b)
theorem pair_all : ∀ a, a < 256 → ∀ b, b < 256 → pairQ a b = true := by decide +kernel
theorem pc_pair {a b : Nat} (ha : a < 256) (hb : b < 256) : pc (a &&& b) + pc (a ||| b) = pc a + pc b := of_decide_eq_true (pair_all a ha b hb)
theorem pc_not {a : Nat} (ha : a < 256) : pc a + pc (255 - a) = 8 := by
  have : ∀ a, a < 256 → pc a + pc (255 - a) = 8 := by decide +kernel
  exact this a ha
theorem sum_out (l : List UInt8) : ∀ k, sumPc l 0 (l.length + k) = sumPc l 0 l.length
  | 0 => rfl
  | k + 1 => by
    show sumPc l 0 (l.length + k + 1) = _
    rw [sumPc, sum_out l k, at8_out (by omega), pc_zero]; rfl
theorem sum_to (l : List UInt8) (n : Nat) (h : l.length ≤ n) : sumPc l 0 n = sumPc l 0 l.length := by
  have := sum_out l (n - l.length)
  rwa [show l.length + (n - l.length) = n by omega] at this
theorem sum_pair (l m x y : List UInt8) : ∀ n, (∀ k, k < n → at8 x k = at8 l k &&& at8 m k) → (∀ k, k < n → at8 y k = at8 l k ||| at8 m k) → sumPc x 0 n + sumPc y 0 n = sumPc l 0 n + sumPc m 0 n
  | 0, _, _ => rfl
  | n + 1, h1, h2 => by
    have ih := sum_pair l m x y n (fun k hk => h1 k (by omega)) (fun k hk => h2 k (by omega))
    have := pc_pair (at8_lt l n) (at8_lt m n)
    simp only [sumPc, Nat.zero_add, h1 n (by omega), h2 n (by omega)]
    omega
theorem sum_not (l x : List UInt8) : ∀ n, (∀ k, k < n → at8 x k = 255 - at8 l k) → sumPc l 0 n + sumPc x 0 n = 8 * n
  | 0, _ => rfl
  | n + 1, h => by
    have ih := sum_not l x n (fun k hk => h k (by omega))
    have := pc_not (at8_lt l n)
    simp only [sumPc, Nat.zero_add, h n (by omega)]
    omega
theorem tx0 (s : ByteArray) (L : List ByteArray) : tx (s :: L) 0 = txt s := rfl
theorem tx1 (s t : ByteArray) (L : List ByteArray) : tx (s :: t :: L) 1 = txt t := rfl
theorem mx1 (s : ByteArray) : mx [s] [s].length = s.size := by
  show max 0 (tx [s] 0).length = _
  rw [tx0, txt_len]; omega
theorem mx2 (s t : ByteArray) : mx [s, t] [s, t].length = max s.size t.size := by
  show max (max 0 (tx [s, t] 0).length) (tx [s, t] 1).length = _
  rw [tx0, tx1, txt_len, txt_len]; omega
theorem acc1 (op k : Nat) (s : ByteArray) : acc op k [s] [s].length = at8 (txt s) k := rfl
theorem acc2 (op k : Nat) (s t : ByteArray) : acc op k [s, t] [s, t].length = opN op (at8 (txt s) k) (at8 (txt t) k) := rfl
theorem not_at {s : ByteArray} {k : Nat} (h : k < s.size) : at8 (opS 4 [s]) k = 255 - at8 (txt s) k := by
  rw [opS_at (by rw [mx1]; exact h), if_pos rfl, acc1]
theorem two_at {op : Nat} {s t : ByteArray} {k : Nat} (h4 : op ≠ 4) (h : k < max s.size t.size) : at8 (opS op [s, t]) k = opN op (at8 (txt s) k) (at8 (txt t) k) := by
  rw [opS_at (by rw [mx2]; exact h), if_neg h4, acc2]
theorem not_not (s : ByteArray) : opS 4 [mkB (opS 4 [s])] = txt s := by
  have e : (mkB (opS 4 [s])).size = s.size := by rw [mkB_size, opS_len, mx1]
  refine ext8 (by rw [opS_len, mx1, e, txt_len]) fun k hk => ?_
  rw [opS_len, mx1, e] at hk
  rw [not_at (by rw [e]; exact hk), txt_mk, not_at hk]
  have := at8_lt (txt s) k
  omega
theorem xor_self (s : ByteArray) : opS 3 [s, s] = pad [] s.size := by
  refine ext8 (by rw [opS_len, mx2, pad_len]; simp) fun k hk => ?_
  rw [opS_len, mx2] at hk
  rw [two_at (by omega) hk, pad_at, at8_out (l := []) (by simp)]
  simp [opN]
theorem whole_sp (n : Nat) : spA n 0 (-1) = 0 ∧ spB n 0 (-1) = n := by
  unfold spA spB fr
  constructor <;> (repeat' split) <;> omega
theorem count_all (s : ByteArray) (w : World) (hs : s.size ≤ 140737488351232) : Calls Tryd.prog 13 #[.string s, .int .i64 0, .int .i64 (-1)] w fun e w' => e = .returned (.int .i64 (sumPc (txt s) 0 s.size : Nat)) ∧ w' = w := by
  have := count_call s 0 (-1) w hs (by unfold InI; omega) (by unfold InI; omega)
  rw [(whole_sp s.size).1, (whole_sp s.size).2] at this
  exact this
theorem ss1 (w : World) (s : ByteArray) : SS (w.alloc (.cells #[.string s] 9)) w.heap.size 0 [s] :=
  ⟨by simp, fun i hi => by
    have : i = 0 := by simpa using hi
    subst this
    exact Lib.cell_of_heap (heap_alloc_new w _) 0⟩
theorem ss2 (w : World) (s t : ByteArray) : SS (w.alloc (.cells #[.string s, .string t] 9)) w.heap.size 0 [s, t] :=
  ⟨by simp, fun i hi => by
    have h2 : i < 2 := by simpa using hi
    rcases (show i = 0 ∨ i = 1 by omega) with rfl | rfl
    · exact Lib.cell_of_heap (heap_alloc_new w _) 0
    · exact Lib.cell_of_heap (heap_alloc_new w _) 1⟩
theorem small1 {s : ByteArray} (h : s.size ≤ 140737488351232) : Small [s] := fun x hx => by simp at hx; subst hx; exact h
theorem small2 {s t : ByteArray} (h : s.size ≤ 140737488351232) (k : t.size ≤ 140737488351232) : Small [s, t] := fun x hx => by
  simp at hx
  rcases hx with rfl | rfl
  · exact h
  · exact k
theorem alloc_b (w : World) (o : Obj) : Below w.heap.size w (w.alloc o) := (Below.refl _ _).alloc (Nat.le_refl _) _
set_option maxHeartbeats 4000000 in
set_option maxRecDepth 100000 in
theorem walk (s t : ByteArray) (w : World) (hs : s.size ≤ 140737488351232) (ht : t.size ≤ 140737488351232) (hh : Has w) :
    Calls Tryd.prog 5 #[.string s, .string t] w fun e w' => e = .returned (.bool true) ∧ Below w.heap.size w w' := by
  have HH := hid_of hh
  obtain ⟨A, HA⟩ : ∃ A, Hid (A = mkB (opS 4 [s])) := ⟨_, hid_of rfl⟩
  have hA : A.size = s.size := by rw [HA.out, mkB_size, opS_len, mx1]
  have hAs : A.size ≤ 140737488351232 := by omega
  have H1 := hid_of (fun w => op_4 w.heap.size 0 1 [s] _ (ss1 w s) (small1 hs) (by simp) (by simp) (by simp) (by simp))
  have H2 := hid_of (fun w => op_4 w.heap.size 0 1 [A] _ (ss1 w A) (small1 hAs) (by simp) (by simp) (by simp) (by simp))
  rw [show mkB (opS 4 [A]) = s by rw [HA.out, not_not, mk_txt]] at H2
  rw [← HA.out] at H1
  have H3 := hid_of (fun w => op_3 w.heap.size 0 2 [s, s] _ (ss2 w s s) (small2 hs hs) (by simp) (by simp) (by simp))
  obtain ⟨C, HC⟩ : ∃ C, Hid (C = mkB (opS 3 [s, s])) := ⟨_, hid_of rfl⟩
  rw [← HC.out] at H3
  have hC : C.size = s.size := by rw [HC.out, mkB_size, opS_len, mx2]; omega
  have H8 := hid_of (fun w => zeros_yes C ⟨#[]⟩ s.size w (by omega) (by rw [HC.out, txt_mk, xor_self]; rfl))
  have H4 := hid_of (fun w => op_1 w.heap.size 0 2 [s, t] _ (ss2 w s t) (small2 hs ht) (by simp) (by simp) (by simp))
  obtain ⟨X, HX⟩ : ∃ X, Hid (X = mkB (opS 1 [s, t])) := ⟨_, hid_of rfl⟩
  rw [← HX.out] at H4
  have hX : X.size = max s.size t.size := by rw [HX.out, mkB_size, opS_len, mx2]
  have H5 := hid_of (fun w => op_2 w.heap.size 0 2 [s, t] _ (ss2 w s t) (small2 hs ht) (by simp) (by simp) (by simp))
  obtain ⟨Y, HY⟩ : ∃ Y, Hid (Y = mkB (opS 2 [s, t])) := ⟨_, hid_of rfl⟩
  rw [← HY.out] at H5
  have hY : Y.size = max s.size t.size := by rw [HY.out, mkB_size, opS_len, mx2]
  have C1 := hid_of (fun w => count_all X w (by omega))
  have C2 := hid_of (fun w => count_all Y w (by omega))
  have C3 := hid_of (fun w => count_all s w hs)
  have C4 := hid_of (fun w => count_all t w ht)
  have C5 := hid_of (fun w => count_all A w hAs)
  have b1 := sumPc_le (txt X) 0 X.size
  have b2 := sumPc_le (txt Y) 0 Y.size
  have b3 := sumPc_le (txt s) 0 s.size
  have b4 := sumPc_le (txt t) 0 t.size
  have b5 := sumPc_le (txt A) 0 A.size
  have E1 := hid_of (show sumPc (txt X) 0 X.size + sumPc (txt Y) 0 Y.size = sumPc (txt s) 0 s.size + sumPc (txt t) 0 t.size by
    have e := sum_pair (txt s) (txt t) (txt X) (txt Y) (max s.size t.size) (fun k hk => by rw [HX.out, txt_mk, two_at (by omega) hk]; rfl) (fun k hk => by rw [HY.out, txt_mk, two_at (by omega) hk]; rfl)
    rw [sum_to (txt s) _ (by rw [txt_len]; omega), sum_to (txt t) _ (by rw [txt_len]; omega), txt_len, txt_len] at e
    rw [hX, hY]; exact e)
  have E2 := hid_of (show sumPc (txt s) 0 s.size + sumPc (txt A) 0 A.size = 8 * s.size by
    rw [hA]
    exact sum_not _ _ _ (fun k hk => by rw [HA.out, txt_mk, not_at hk]))
  generalize sumPc (txt X) 0 X.size = x at *
  generalize sumPc (txt Y) 0 Y.size = y at *
  generalize sumPc (txt s) 0 s.size = p at *
  generalize sumPc (txt t) 0 t.size = q at *
  generalize sumPc (txt A) 0 A.size = a at *
  have g1 : x ≤ 1125899906809856 := by omega
  have g2 : y ≤ 1125899906809856 := by omega
  have g3 : p ≤ 1125899906809856 := by omega
  have g4 : q ≤ 1125899906809856 := by omega
  have g5 : a ≤ 1125899906809856 := by omega
  have f1 : (((x : Int) + (y : Int)) == ((p : Int) + (q : Int))) = true := by rw [beq_iff_eq]; have := E1.out; omega
  have f2 : (((p : Int) + (a : Int)) == (8 * (s.size : Int))) = true := by rw [beq_iff_eq]; have := E2.out; omega
  have f3 : ((C.size : Int) != (s.size : Int)) = false := by rw [hC]; simp
  clear hh b1 b2 b3 b4 b5 hA hC hX hY
  go_enter Tryd.func5, Tryd.ntmps5
  go_wp2_with fail
  refine (H1.out _).mono ?_
  rintro e w1 ⟨rfl, b1⟩
  have B1 := hid_of (bel (alloc_b w _) b1 (Nat.le_refl _))
  clear b1
  go_wp2_with fail
  refine (H2.out _).mono ?_
  rintro e w2 ⟨rfl, b2⟩
  have B2 := hid_of (bel (bel B1.out (alloc_b w1 _) (Nat.le_refl _)) b2 (Nat.le_refl _))
  clear b2 B1
  go_wp2_with fail
  refine (H3.out _).mono ?_
  rintro e w3 ⟨rfl, b3⟩
  have B3 := hid_of (bel (bel B2.out (alloc_b w2 _) (Nat.le_refl _)) b3 (Nat.le_refl _))
  clear b3 B2
  go_wp2_with fail
  refine (H4.out _).mono ?_
  rintro e w4 ⟨rfl, b4⟩
  have B4 := hid_of (bel (bel B3.out (alloc_b w3 _) (Nat.le_refl _)) b4 (Nat.le_refl _))
  clear b4 B3
  go_wp2_with fail
  refine (H5.out _).mono ?_
  rintro e w5 ⟨rfl, b5⟩
  have B5 := hid_of (bel (bel B4.out (alloc_b w4 _) (Nat.le_refl _)) b5 (Nat.le_refl _))
  clear b5 B4
  go_wp2_with fail
  refine (H8.out _).mono ?_
  rintro e w6 ⟨rfl, rfl⟩
  go_wp2_with fail
  refine (C1.out _).mono ?_
  rintro e w6 ⟨rfl, rfl⟩
  go_wp2_with fail
  refine (C2.out _).mono ?_
  rintro e w6 ⟨rfl, rfl⟩
  go_wp2_with fail
  refine (C3.out _).mono ?_
  rintro e w6 ⟨rfl, rfl⟩
  go_wp2_with fail
  refine (C4.out _).mono ?_
  rintro e w6 ⟨rfl, rfl⟩
  go_wp2_with fail
  refine (C3.out _).mono ?_
  rintro e w6 ⟨rfl, rfl⟩
  go_wp2_with fail
  refine (C5.out _).mono ?_
  rintro e w6 ⟨rfl, rfl⟩
  go_wp2_with fail
  refine (Sure.sure_call _ (HH.out.later B5.out)).mono ?_
  rintro e w7 ⟨rfl, b7⟩
  go_wp2
  go_ret
  exact ⟨rfl, bel B5.out b7 (Nat.le_refl _)⟩
end Go.Proofs.YtdkdjgpeeglbhabDoor.LawSums
