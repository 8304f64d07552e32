/- rising: the names of a map, in their order. -/
import Derived.Test.YtilbffbmpgebmaaOps2
namespace Go.Proofs.Ytilbffbmpgebmaa.Rising
open Go.RowKit Go.Maps Go.Sort
open Go.Proofs.Ytilbffbmpgebmaa.DiskMath
open Go.Proofs.Ytilbffbmpgebmaa.Base
open Go.Proofs.Ytilbffbmpgebmaa.Small
open Go.Proofs.Ytilbffbmpgebmaa.Find
open Go.Proofs.Ytilbffbmpgebmaa.File
open Go.Proofs.Ytilbffbmpgebmaa.File2
open Go.Proofs.Ytilbffbmpgebmaa.Append
set_option linter.unusedVariables false

theorem enc_mk (x : Bs) : encStr x = .string (mk x) := rfl
theorem clone_enc (x : Bs) (hx : x.length ≤ 281474976710656) (w : World) : Calls Try.prog 63 #[encStr x] w fun e w' => e = .returned (encStr x) ∧ Below w.heap.size w w' := clone_call (mk x) (by rw [mk_size]; exact hx) w
theorem inv_ptr (v : Value) (y : DataW Unit × List MemPlace) (h : RP v = some y) : ∃ c : Option Addr, v = Value.pointer c := by
  rcases RP_inv h with ⟨rfl, _⟩ | ⟨f, rfl, _⟩ <;> exact ⟨_, rfl⟩
set_option maxRecDepth 100000 in
set_option maxHeartbeats 4000000 in
theorem rising_any (b m : Nat) (pos : Nat → Nat) (l : NL) (w : World) (hown : w.ownsMap Try.prog 9 RP b l.length (toD pos l)) (hl : NOk m l) (hmax : l.length < 1099511627776) :
    Calls Try.prog 45 #[.map (some b)] w fun e w' => ∃ (g cap : Nat) (ss : List (List UInt8)), e = .returned (.slice (some ⟨g, 0, none⟩) ss.length cap) ∧ ss.Perm (strKeys (toD pos l)) ∧
      w'.ownsRow w.heap.size 9 1 (.slice (some ⟨g, 0, none⟩) ss.length cap) ss.length ((ss.mergeSort (fun x y => decide (x ≤ y))).map encStr) ∧ Below w.heap.size w w' := by
  obtain ⟨i0, hi, hz0, hz1, hz2⟩ := parts info9
  have hbl := hown.lt
  have hsz : Maps.size (toD pos l) = l.length := size_D pos l
  have HC := hid_of clone_enc
  have HL := hid_of hl
  obtain ⟨D0, hD0⟩ : ∃ D0, D0 = toD pos l := ⟨_, rfl⟩
  have HD := hid_of hD0
  rw [← hD0] at hown hsz ⊢
  have HSZ := hid_of hsz
  clear hD0 hl hsz
  go_enter Try.func45, Try.ntmps45
  go_wp2_with (first
    | (at_len; refine wpList_len_own _ rfl _ 66 rfl 9 82 Try.underlying66 _ b l.length _ rfl hown ?_)
    | (at_make; refine wpList_make_own _ rfl _ _ 43 rfl w.heap.size 9 i0 (.string ⟨#[]⟩) 1 Try.underlying43 hi hz0 hz1 _ _ _ (Maps.size D0) rfl rfl rfl (by rw [hz2, HSZ.out]; omega) (by rw [HSZ.out]; unfold maxLen; omega) (Nat.le_refl _) ?_; intro w1 hrow1 hg1)
    | (at_range; refine wpList_range_own _ rfl _ 66 rfl 9 82 law9 Try.underlying66 _ b l.length _ rfl (hown.kept hg1 (by simp)) ?_; intro w0 hrg0 hg0 hs0)
    | go_in)
  go_frame
  go_loopw [3] (fun v wr => ∃ (left : Lit → Bool) (cnt : Nat) (ss : List (List UInt8)), wr.ranges Try.prog 9 RP b w1.heap.size l.length D0 left cnt ∧ ss.length + cnt ≤ Maps.size D0 ∧
      wr.ownsRow w.heap.size 9 1 v ss.length (ss.map encStr) ∧ v ≠ .slice none 0 0 ∧ Collected D0 left ss ∧ Below w.heap.size w wr)
    (fun _ wr => wr.rangeLeft b w1.heap.size)
  case atStart =>
    exact ⟨_, _, [], hrg0, by simp, hrow1.kept hg0 (Or.inr (by simp [Value.ownBlock])), by simp, Collected.start D0,
      ((Below.refl _ _).grown hg1 (Nat.le_refl _) (fun j hj => by cases hj)).grown hg0 hg1.size (fun j hj => by cases hj)⟩
  case round =>
    obtain ⟨left, cnt, ss, hrg, hcs0, hrow, hnn, hC, hnx⟩ := hrel
    have hcs : ss.length + cnt ≤ l.length := by rw [HSZ.out] at hcs0; exact hcs0
    clear hcs0
    go_wp2_with (first
      | (at_next; refine wpList_next_ranges _ rfl _ rfl 9 law9 RP encStr Value.pointer (fun key kl hk => by obtain ⟨x, hx, _⟩ := Maps.keyOf_str Try.underlying9 hk; exact ⟨x, hx⟩) inv_ptr b w1.heap.size l.length _ _ _ rfl hrg ?_ ?_)
      | go_in)
    · intro hc0 hl0
      rcases hrow.2 with ⟨hnil, _⟩ | ⟨g, cap, cur, rfl, hbase, hb, h1, h2, h3, h4⟩
      · exact absurd hnil hnn
      have hH : Holds encStr wr g 0 ss.toArray := holds_of_block hb (by simpa using h4)
      have hgl : g < wr.heap.size := (Array.getElem?_eq_some_iff.1 hb).1
      have hc := Try.slices_Sort_string g 0 cap ss wr hH hgl (by have := HSZ.out; omega)
      go_wp2_with (go_at_call 64; refine hc.mono ?_; rintro e w' ⟨rfl, nn, os, rfl⟩)
      go_ret
      exact ⟨g, cap, ss, rfl, hC.perm hown law9 Try.underlying9 hl0, ownsRow_sorted (by simp) hbase hb h1 h2 h3, hnx.grown (grownBy_sorted _) hnx.size (fun j hj => by cases hj; exact hbase)⟩
    · intro x c kl yd yp w2 cnt2 hkey hlk hv hat hrg2 hlt hg2 hs2 hen
      obtain ⟨x', ex, rfl, _⟩ := Maps.keyOf_str Try.underlying9 hkey
      obtain rfl : x = x' := encStr_inj ex
      have hrow2 := hrow.kept hg2 (Or.inr (row_ne_iter hrow hrg).symm)
      have hxl : x.length ≤ 281474976710656 := by
        have hh := Maps.has_true_of_atKey hat
        rw [HD.out, has_D] at hh
        obtain ⟨f, hf⟩ := Option.isSome_iff_exists.1 hh
        exact HL.out.len _ (lkp_mem hf)
      have HC2 := hid_of (HC.out x hxl w2)
      clear hs2 hxl
      go_wp2_with fail
      refine HC2.out.mono ?_
      rintro e w3 ⟨rfl, b3⟩
      have g3 : w2.grownBy w3 none := ⟨b3.os, b3.tape, b3.output, b3.size, fun k hk _ => b3.block k hk⟩
      have hrow3 := row_later hrow2 (fun g hg => b3.block g (row_kd hrow2 hg).2.1)
      have hrg3' := hrg2.kept g3 (by simp) (by simp)
      have G3 := hid_of g3
      clear b3 g3
      go_wp2_with (first
        | (at_builtin; refine wpList_append_own _ rfl _ _ 43 rfl w.heap.size 9 i0 (.string ⟨#[]⟩) 1 16 Try.underlying43 hi hz0 hz1 hz2 rfl (by decide) _ _ _ rfl (hrow3.alloc _) ⟨w3.heap.size, 0, none⟩ 1 1 [encStr x] rfl rfl (cell_one_new _ _ _) (by simp [Value.oneCell', encStr]) (by unfold maxLen at *; omega) (by omega) (by have := hnx.size; have := hg2.size; have := G3.out.size; simp; omega) ?_; intro v' w4 hown' hg4 hnil4; go_frame)
        | go_in)
      have hrg4 := (hrg3'.alloc _).kept hg4 (row_ne_low hrow3 hbl) (row_ne_iter hrow3 hrg3')
      go_roundw
      case rel =>
        refine ⟨_, cnt2, ss ++ [x], hrg4, by rw [HSZ.out]; simp; omega, by simpa using hown', fun hv' => by have := (hnil4.1 hv').2; omega, hC.step hlk hat, ?_⟩
        exact (((hnx.grown hg2 hnx.size (fun j hj => by cases hj; exact hg1.size)).grown G3.out (by have := hnx.size; have := hg2.size; omega) (fun j hj => by cases hj)).alloc (by have := hnx.size; have := hg2.size; have := G3.out.size; omega) _).grown hg4 (by have := hnx.size; have := hg2.size; have := G3.out.size; simp; omega) (fun j hj => (hrow3.lt j hj).1)
      case measure => rw [hrg4.left_eq, hrg.left_eq]; exact hlt
end Go.Proofs.Ytilbffbmpgebmaa.Rising
