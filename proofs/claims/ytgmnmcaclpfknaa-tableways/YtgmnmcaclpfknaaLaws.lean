/- awake, and the laws TableFinds and TableChecks. -/
import Derived.Test.YtgmnmcaclpfknaaRChk
import Derived.Test.YtgmnmcaclpfknaaEqS
namespace Go.Proofs.Ytgmnmcaclpfknaa.Laws
open Go.RowKit
open Go.Proofs.Ytgmnmcaclpfknaa.Tab
open Go.Proofs.Ytgmnmcaclpfknaa.Base
open Go.Proofs.Ytgmnmcaclpfknaa.Low
open Go.Proofs.Ytgmnmcaclpfknaa.FindP
open Go.Proofs.Ytgmnmcaclpfknaa.FindC
open Go.Proofs.Ytgmnmcaclpfknaa.RFind
open Go.Proofs.Ytgmnmcaclpfknaa.RowOf
open Go.Proofs.Ytgmnmcaclpfknaa.Chk
open Go.Proofs.Ytgmnmcaclpfknaa.RChk
open Go.Proofs.Ytgmnmcaclpfknaa.EqS
open Go.Proofs.Ytgmnmcaclpfknaa.RowsL (valS cellsS)
attribute [local go_sem] Oper.semAt_some
set_option linter.unusedVariables false
set_option linter.unusedSimpArgs false
def getSc : Sc := ⟨[103, 101, 116], 2, false, false, 1, 1, 1⟩
theorem fget : fnd (([71, 69, 84] : Tab.Bs).map low) = (getSc, true) := by
  have h : findR (([71, 69, 84] : Tab.Bs).map low) = some ⟨[103, 101, 116], 2, 0, 1, 1, 1⟩ := by decide +kernel
  unfold fnd
  rw [h]
  rfl
theorem fget2 : fnd (([71, 101, 116] : Tab.Bs).map low) = (getSc, true) := by
  have h : findR (([71, 101, 116] : Tab.Bs).map low) = some ⟨[103, 101, 116], 2, 0, 1, 1, 1⟩ := by decide +kernel
  unfold fnd
  rw [h]
  rfl
theorem ckget : checkS [[71, 101, 116]] = art ++ [103, 101, 116] := by
  unfold checkS rowS
  rw [show nameOf [[71, 101, 116]] = [71, 101, 116] from rfl, fget2]
  rfl
def arityGet : ByteArray := ⟨#[69, 82, 82, 32, 119, 114, 111, 110, 103, 32, 110, 117, 109, 98, 101, 114, 32, 111, 102, 32, 97, 114, 103, 117, 109, 101, 110, 116, 115, 58, 32, 103, 101, 116]⟩
set_option maxHeartbeats 2000000 in
set_option maxRecDepth 100000 in
theorem awake_call (w : World) : Calls Try.prog 12 #[] w fun e w' => e = .returned (.bool true) ∧ Below w.heap.size w w' := by
  have HF : Hid (∀ w, Calls Try.prog 8 #[.string ⟨#[71, 69, 84]⟩] w fun e w' => e = .returned (.tuple #[.agg #[.string ⟨#[103, 101, 116]⟩, .int .i64 2, .bool false, .bool false, .int .i64 1, .int .i64 1, .int .i64 1], .bool true]) ∧ Below w.heap.size w w') := hid_of fun w => by
    have := find_call [71, 69, 84] w (by decide)
    unfold findV at this
    rw [fget] at this
    exact this
  have HC : Hid (∀ W : World, Calls Try.prog 15 #[.slice (some ⟨W.heap.size, 0, none⟩) 1 1] (W.alloc (.cells #[.string ⟨#[71, 101, 116]⟩] 9)) fun e w' => e = .returned (.string arityGet) ∧ Below W.heap.size W w') := hid_of fun W => by
    have hs := sl_new W [[71, 101, 116]]
    refine (check_call hs (by decide) (fun x hx => by simp at hx; rw [hx]; decide)).mono ?_
    rintro e w' ⟨rfl, b⟩
    refine ⟨by rw [ckget]; rfl, ?_⟩
    have b0 : Below W.heap.size W (W.alloc (.cells (([[71, 101, 116]] : List Tab.Bs).map V).toArray 9)) := (Below.refl _ W).alloc (Nat.le_refl _) _
    exact b0.trans (b.mono b0.size)
  have he := eqlS ⟨#[103, 101, 116]⟩ 2 false false 1 1 1
  have ht : (arityGet.toList == [69, 82, 82, 32, 119, 114, 111, 110, 103, 32, 110, 117, 109, 98, 101, 114, 32, 111, 102, 32, 97, 114, 103, 117, 109, 101, 110, 116, 115, 58, 32, 103, 101, 116]) = true := by decide +kernel
  have ht2 : arityGet.toList = [69, 82, 82, 32, 119, 114, 111, 110, 103, 32, 110, 117, 109, 98, 101, 114, 32, 111, 102, 32, 97, 114, 103, 117, 109, 101, 110, 116, 115, 58, 32, 103, 101, 116] := eq_of_beq ht
  generalize arityGet = AG at *
  go_enter Try.func12, Try.ntmps12
  go_wp2_with fail
  refine (HF.out _).mono ?_
  rintro e w1 ⟨rfl, b1⟩
  have b2 : Below w.heap.size w (w1.alloc (.cells #[.string ⟨#[103, 101, 116]⟩, .int .i64 2, .bool false, .bool false, .int .i64 1, .int .i64 1, .int .i64 1] 23)) := b1.alloc b1.size _
  have HB := hid_of b2
  have HC1 := HC.out (w1.alloc (.cells #[.string ⟨#[103, 101, 116]⟩, .int .i64 2, .bool false, .bool false, .int .i64 1, .int .i64 1, .int .i64 1] 23))
  rw [show (⟨(w1.alloc (.cells #[.string ⟨#[103, 101, 116]⟩, .int .i64 2, .bool false, .bool false, .int .i64 1, .int .i64 1, .int .i64 1] 23)).heap.size, 0, none⟩ : Addr) = ⟨w1.heap.size + 1, 0, none⟩ from by simp] at HC1
  have HC2 := hid_of HC1
  clear b1 b2 HC1
  go_wp2_with fail
  refine HC2.out.mono ?_
  rintro e w3 ⟨rfl, b3⟩
  have HB3 := hid_of (HB.out.trans (b3.mono HB.out.size))
  clear b3
  go_wp2_with fail
  go_ret
  exact ⟨rfl, HB3.out⟩
set_option maxHeartbeats 2000000 in
set_option maxRecDepth 100000 in
theorem finds_call (l : Tab.Bs) (w : World) (hl : l.length < 9223372036854775808) : Calls Try.prog 3 #[.string (mk l)] w fun e w' => e = .returned (.bool true) ∧ Below w.heap.size w w' := by
  have H1 := hid_of (fun w => find_call l w hl)
  have H2 := hid_of (fun w => rfind_call l w hl)
  have H3 := hid_of (fun w => lower_call l w hl)
  have H4 := hid_of (fun w => rlower_call l w hl)
  have H5 := hid_of awake_call
  clear hl
  unfold findV valS cellsS at H1 H2
  have hs := str_yes (l.map low)
  generalize mk (l.map low) = LO at *
  generalize (fnd (l.map low)).1 = r at *
  generalize (fnd (l.map low)).2 = b at *
  have he := eqlS (mk r.name) r.arity r.wr r.ct r.first r.last r.step
  generalize mk l = L at *
  generalize mk r.name = NM at *
  go_enter Try.func3, Try.ntmps3
  go_wp2_with fail
  refine (H1.out _).mono ?_
  rintro e w1 ⟨rfl, b1⟩
  obtain ⟨w2, hw2⟩ : ∃ w2, w2 = w1.alloc (.cells #[.string NM, .int .i64 r.arity, .bool r.wr, .bool r.ct, .int .i64 r.first, .int .i64 r.last, .int .i64 r.step] 23) := ⟨_, rfl⟩
  have b2 : Below w.heap.size w w2 := by rw [hw2]; exact b1.alloc b1.size _
  have h2 : w2.heap[w1.heap.size]? = some (.cells #[.string NM, .int .i64 r.arity, .bool r.wr, .bool r.ct, .int .i64 r.first, .int .i64 r.last, .int .i64 r.step] 23 (0, 0)) := by rw [hw2]; exact heap_alloc_new w1 _
  have HW2 := hid_of hw2
  have HX2 := hid_of (And.intro b2 h2)
  clear b1 b2 h2 hw2
  go_wp2_with fail
  rw [← HW2.out]
  refine (H2.out _).mono ?_
  rintro e w3 ⟨rfl, b3⟩
  have h3 := (b3.block _ (lt_of HX2.out.2)).trans HX2.out.2
  have q0 : w3.cell? ⟨w1.heap.size, 0, none⟩ = some (.string NM) := Lib.cell_of_heap h3 0
  have q1 : w3.cell? ⟨w1.heap.size, 1, none⟩ = some (.int .i64 r.arity) := Lib.cell_of_heap h3 1
  have q2 : w3.cell? ⟨w1.heap.size, 2, none⟩ = some (.bool r.wr) := Lib.cell_of_heap h3 2
  have q3 : w3.cell? ⟨w1.heap.size, 3, none⟩ = some (.bool r.ct) := Lib.cell_of_heap h3 3
  have q4 : w3.cell? ⟨w1.heap.size, 4, none⟩ = some (.int .i64 r.first) := Lib.cell_of_heap h3 4
  have q5 : w3.cell? ⟨w1.heap.size, 5, none⟩ = some (.int .i64 r.last) := Lib.cell_of_heap h3 5
  have q6 : w3.cell? ⟨w1.heap.size, 6, none⟩ = some (.int .i64 r.step) := Lib.cell_of_heap h3 6
  have hlt : w1.heap.size < w3.heap.size := lt_of h3
  have HB3 := hid_of (HX2.out.1.trans (b3.mono HX2.out.1.size))
  clear b3 h3
  have hbb : (b == b) = true := by simp
  go_wp2_with fail
  refine (H3.out _).mono ?_
  rintro e w4 ⟨rfl, b4⟩
  have HB4 := hid_of (HB3.out.trans ((Below.trans ((Below.refl _ w3).alloc (Nat.le_refl _) _) (b4.mono (by simp))).mono HB3.out.size))
  clear b4
  go_wp2_with fail
  refine (H4.out _).mono ?_
  rintro e w5 ⟨rfl, b5⟩
  have HB5 := hid_of (HB4.out.trans (b5.mono HB4.out.size))
  clear b5
  go_wp2_with fail
  refine (H5.out _).mono ?_
  rintro e w6 ⟨rfl, b6⟩
  have HB6 := hid_of (HB5.out.trans (b6.mono HB5.out.size))
  clear b6
  go_wp2_with fail
  go_ret
  exact ⟨rfl, HB6.out⟩
set_option maxHeartbeats 2000000 in
set_option maxRecDepth 100000 in
theorem checks_call {G : Nat → Prop} {w : World} {v : Value} {l : List Tab.Bs} (h : SL G w v l) (hl : l.length < 9223372036854775808) (hb : ∀ x ∈ l, x.length < 9223372036854775808) : Calls Try.prog 5 #[v] w fun e w' => e = .returned (.bool true) ∧ Below w.heap.size w w' := by
  have H1 := hid_of (check_call h hl hb)
  have H2 : Hid (∀ W, Below w.heap.size w W → _) := hid_of fun W b => rcheck_call (h.below b) hl hb
  have H5 := hid_of awake_call
  have hs := str_yes (checkS l)
  obtain ⟨a, c, rfl, _⟩ := h
  clear hl hb
  generalize mk (checkS l) = X at *
  go_enter Try.func5, Try.ntmps5
  go_wp2_with fail
  refine H1.out.mono ?_
  rintro e w1 ⟨rfl, b1⟩
  have HB1 := hid_of b1
  clear b1
  go_wp2_with fail
  refine (H2.out _ HB1.out).mono ?_
  rintro e w2 ⟨rfl, b2⟩
  have HB2 := hid_of (HB1.out.trans (b2.mono HB1.out.size))
  clear b2
  go_wp2_with fail
  refine (H5.out _).mono ?_
  rintro e w6 ⟨rfl, b6⟩
  have HB6 := hid_of (HB2.out.trans (b6.mono HB2.out.size))
  clear b6
  go_wp2_with fail
  go_ret
  exact ⟨rfl, HB6.out⟩
end Go.Proofs.Ytgmnmcaclpfknaa.Laws
