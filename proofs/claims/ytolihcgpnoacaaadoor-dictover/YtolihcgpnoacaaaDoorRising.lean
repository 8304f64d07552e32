/- rising: the names that are wanted, in their order. -/
import Derived.Test.YtolihcgpnoacaaaDoorOf
import Derived.Test.YtolihcgpnoacaaaDoorShelf
import Derived.Sort.KeysCollected
namespace Go.Proofs.YtolihcgpnoacaaaDoor.Rising
open Go.RowKit Go.Maps Go.Sort
open Go.Proofs.YtolihcgpnoacaaaDoor.DictMath
open Go.Proofs.YtolihcgpnoacaaaDoor.Base
open Go.Proofs.YtolihcgpnoacaaaDoor.Small
set_option linter.unusedVariables false

theorem enc_mk (x : Bs) : encStr x = .string (mk x) := rfl
theorem inv_agg (v : Value) (y : DataW Unit × List MemPlace) (h : RC v = some y) : ∃ c : ByteArray, v = Value.agg #[.string c] := by
  obtain ⟨s, rfl, _⟩ := RC_inv h
  exact ⟨s, rfl⟩
set_option maxRecDepth 100000 in
theorem rising_nil (K : Value) (w : World) : Calls Tryd.prog 32 #[.pointer none, K] w fun e w' => e = .returned (.slice none 0 0) ∧ w' = w := by
  go_enter Tryd.func32, Tryd.ntmps32
  go_wp2
  go_ret
  exact ⟨rfl, rfl⟩
set_option maxRecDepth 100000 in
theorem all_call (x : Bs) (w : World) : Calls Tryd.prog 35 #[encStr x] w fun e w' => e = .returned (.bool true) ∧ w' = w := by
  go_enter Tryd.func35, Tryd.ntmps35
  go_wp2
  go_ret
  exact ⟨rfl, rfl⟩
set_option maxRecDepth 100000 in
theorem gtr_call (x k : Bs) (c : Nat) (w : World) (hc : w.cell? ⟨c, 0, none⟩ = some (.string (mk k))) : Calls Tryd.prog 33 #[encStr x, .pointer (some ⟨c, 0, none⟩)] w fun e w' => e = .returned (.bool (decide (k < x))) ∧ w' = w := by
  rw [enc_mk]
  have HL : Hid ((!Op.bytesLess (mk x).toList (mk k).toList && !(mk x).toList == (mk k).toList) = decide (k < x)) := by
    show _ = _
    rw [mk_list, mk_list, bytesLess_eq]
    rcases lt_tot k x with q | q | q
    · simp [q, lt_not q, (lt_ne q).symm]
    · simp [q, List.lt_irrefl]
    · simp [q, lt_not q]
  generalize mk k = S at *
  generalize mk x = T at *
  generalize decide (k < x) = d at *
  go_enter Tryd.func33, Tryd.ntmps33
  go_wp2_with fail
  go_ret
  exact ⟨ret_b HL.out, rfl⟩
def RisE (ks : List Bs) (w : World) (e : Ending) (w' : World) : Prop := ∃ v, e = .returned v ∧ w'.ownsRow w.heap.size 9 1 v ks.length (ks.map encStr) ∧ Below w.heap.size w w'
theorem info9 : (Tryd.prog.info? 9).map (fun i => (i.zero, i.size, i.bytes)) = some (some (.string ⟨#[]⟩), 1, 16) := by kernel_rfl
theorem parts_of {t : TypeId} {z : Value} {n m : Nat} (h : (Tryd.prog.info? t).map (fun i => (i.zero, i.size, i.bytes)) = some (some z, n, m)) : ∃ i, Tryd.prog.info? t = some i ∧ i.zero = some z ∧ i.size = n ∧ i.bytes = m := by
  cases e : Tryd.prog.info? t with
  | none => rw [e] at h; cases h
  | some i =>
    rw [e] at h
    simp at h
    exact ⟨i, rfl, h.1, h.2.1, h.2.2⟩
theorem end_perm {l : FL} {P : Bs → Bool} (hr : Ris l) {ss all : List Bs} (hs : ss = all.filter P) (hp : all.Perm (strKeys (toD l))) : ss.mergeSort leB = (keys l).filter P := by
  have h1 : ss.Perm ((keys l).filter P) := by rw [hs, ← keys_D]; exact hp.filter P
  rw [mergeSort_of_perm h1]
  exact sort_keys (List.Pairwise.sublist List.filter_sublist (ris_keys hr))

set_option maxRecDepth 100000 in
set_option maxHeartbeats 4000000 in
theorem rising_all (b m : Nat) (l : FL) (w : World) (h : DK b m l w) (hmax : l.length < 8796093022208) :
    Calls Tryd.prog 32 #[ptr b, .func (.func 35) #[] #[]] w fun e w' => RisE ((keys l).filter (fun _ => true)) w e w' := by
  obtain ⟨i0, hi, hz0, hz1, hz2⟩ := parts_of info9
  have hown := h.map
  have hbl := hown.lt
  have c0 := h.cell
  have HR := hid_of h.ris
  have HSZ := hid_of (size_D l)
  obtain ⟨D0, hD0⟩ : ∃ D0, D0 = toD l := ⟨_, rfl⟩
  have HD := hid_of hD0
  rw [← hD0] at hown HSZ
  clear hD0 h
  unfold ptr
  go_enter Tryd.func32, Tryd.ntmps32
  go_wp2_with (first
    | (at_range; refine wpList_range_own _ rfl _ 59 rfl 9 63 law9 Tryd.underlying59 _ m l.length _ rfl hown ?_; intro w0 hrg0 hg0 hs0)
    | go_in)
  go_frame
  go_loopw [5] (fun v wr => ∃ (left : Lit → Bool) (cnt : Nat) (ss all : List (List UInt8)), wr.ranges Tryd.prog 9 RC m w.heap.size l.length D0 left cnt ∧ ss.length + cnt ≤ Maps.size D0 ∧
      wr.ownsRow w.heap.size 9 1 v ss.length (ss.map encStr) ∧ Hid (ss = all.filter (fun _ => true)) ∧ Collected D0 left all ∧ Below w.heap.size w wr)
    (fun _ wr => wr.rangeLeft m w.heap.size)
  case atStart =>
    exact ⟨_, _, [], [], hrg0, by simp, World.ownsRow_nil _ _ _ _, hid_of rfl, Collected.start D0, (Below.refl _ _).grown hg0 (Nat.le_refl _) (fun j hj => by cases hj)⟩
  case round =>
    obtain ⟨left, cnt, ss, all, hrg, hcs0, hrow, HSS, hC, hnx⟩ := hrel
    have hcs : ss.length + cnt ≤ l.length := by rw [HSZ.out] at hcs0; exact hcs0
    clear hcs0
    go_wp2_with (first
      | (at_next; refine wpList_next_ranges _ rfl _ rfl 9 law9 RC encStr (fun c : ByteArray => Value.agg #[.string c]) (fun key kl hk => by obtain ⟨x, hx, _⟩ := Maps.keyOf_str Tryd.underlying9 hk; exact ⟨x, hx⟩) inv_agg m w.heap.size l.length _ _ _ rfl hrg ?_ ?_)
      | go_in)
    · intro hcn hl0
      have HP := hid_of (end_perm HR.out HSS.out (by have := hC.perm hown law9 Tryd.underlying9 hl0; rw [HD.out] at this; exact this))
      rcases hrow.2 with ⟨rfl, h0⟩ | ⟨g, cap, cur, rfl, hbase, hb, h1, h2, h3, h4⟩
      · have hc := Tryd.slices_Sort_string_none none 0 wr
        have hss : ss = [] := List.length_eq_zero_iff.1 h0
        subst hss
        clear hrow h0
        go_wp2_with (go_at_call 39; refine hc.mono ?_; rintro e w' ⟨rfl, rfl⟩)
        go_ret
        refine ⟨.slice none 0 0, rfl, ?_, hnx⟩
        rw [← HP.out, List.mergeSort_nil]
        exact World.ownsRow_nil _ _ _ _
      · have hH : Holds encStr wr g 0 ss.toArray := holds_of_block hb (by simpa using h4)
        have hgl : g < wr.heap.size := (Array.getElem?_eq_some_iff.1 hb).1
        have hc := Tryd.slices_Sort_string g 0 cap ss wr hH hgl (by omega)
        go_wp2_with (go_at_call 39; refine hc.mono ?_; rintro e w' ⟨rfl, nn, os, rfl⟩)
        go_ret
        refine ⟨.slice (some ⟨g, 0, none⟩) ss.length cap, rfl, ?_, hnx.grown (grownBy_sorted _) hnx.size (fun j hj => by cases hj; exact hbase)⟩
        have e1 : ss.mergeSort (fun x y => decide (x ≤ y)) = (keys l).filter (fun _ => true) := HP.out
        have e2 : ((keys l).filter (fun _ => true)).length = ss.length := by rw [← e1, List.length_mergeSort]
        rw [e2, ← e1]
        exact ownsRow_sorted (by simp) hbase hb h1 h2 h3
    · intro x c kl yd yp w2 cnt2 hkey hlk hv hat hrg2 hlt hg2 hs2 hen
      obtain ⟨x', ex, rfl, _⟩ := Maps.keyOf_str Tryd.underlying9 hkey
      obtain rfl : x = x' := encStr_inj ex
      have hrow2 := hrow.kept hg2 (Or.inr (row_ne_iter hrow hrg).symm)
      clear hs2
      have hnx2 := hnx.grown hg2 hnx.size (fun j hj => by cases hj; exact Nat.le_refl _)
      have HC := hid_of (all_call x w2)
      have HS2 : Hid (ss ++ [x] = (all ++ [x]).filter (fun _ => true)) := by show _ = _; rw [List.filter_append, ← HSS.out]; rfl
      go_wp2_with fail
      refine HC.out.mono ?_
      rintro e w3 hw3
      obtain ⟨rfl, rfl⟩ := hw3
      go_wp2_with (first
        | (at_builtin; refine wpList_append_own _ rfl _ _ 73 rfl w.heap.size 9 i0 (.string ⟨#[]⟩) 1 16 Tryd.underlying73 hi hz0 hz1 hz2 rfl (by decide) _ _ _ rfl (hrow2.alloc _) ⟨w3.heap.size, 0, none⟩ 1 1 [encStr x] rfl rfl (cell_one_new _ _ _) (by simp [Value.oneCell', encStr]) (by unfold maxLen at *; omega) (by omega) (by have := hnx2.size; simp; omega) ?_; intro v' w4 hown' hg4 hnil4; go_frame)
        | go_in)
      have hrg4 := (hrg2.alloc _).kept hg4 (row_ne_low hrow2 hbl) (row_ne_iter hrow2 hrg2)
      go_roundw
      case rel => exact ⟨_, cnt2, ss ++ [x], all ++ [x], hrg4, by rw [HSZ.out]; simp; omega, by simpa using hown', HS2, hC.step hlk hat, (hnx2.alloc hnx2.size _).grown hg4 (by have := hnx2.size; simp; omega) (fun j hj => (hrow2.lt j hj).1)⟩
      case measure => rw [hrg4.left_eq, hrg.left_eq]; exact hlt

set_option maxRecDepth 100000 in
set_option maxHeartbeats 4000000 in
theorem rising_gtr (b m : Nat) (l : FL) (k : Bs) (c0b : Nat) (w : World) (h : DK b m l w) (hk : w.cell? ⟨c0b, 0, none⟩ = some (.string (mk k))) (hmax : l.length < 8796093022208) :
    Calls Tryd.prog 32 #[ptr b, .func (.func 33) #[] #[.pointer (some ⟨c0b, 0, none⟩)]] w fun e w' => RisE ((keys l).filter (fun x => decide (k < x))) w e w' := by
  obtain ⟨i0, hi, hz0, hz1, hz2⟩ := parts_of info9
  have hown := h.map
  have hbl := hown.lt
  have c0 := h.cell
  have HR := hid_of h.ris
  have HSZ := hid_of (size_D l)
  have HK : Hid (∀ W, Below w.heap.size w W → W.cell? ⟨c0b, 0, none⟩ = some (.string (mk k))) := hid_of (fun W hW => cell_on hW hk)
  clear hk
  obtain ⟨D0, hD0⟩ : ∃ D0, D0 = toD l := ⟨_, rfl⟩
  have HD := hid_of hD0
  rw [← hD0] at hown HSZ
  clear hD0 h
  unfold ptr
  go_enter Tryd.func32, Tryd.ntmps32
  go_wp2_with (first
    | (at_range; refine wpList_range_own _ rfl _ 59 rfl 9 63 law9 Tryd.underlying59 _ m l.length _ rfl hown ?_; intro w0 hrg0 hg0 hs0)
    | go_in)
  go_frame
  go_loopw [5] (fun v wr => ∃ (left : Lit → Bool) (cnt : Nat) (ss all : List (List UInt8)), wr.ranges Tryd.prog 9 RC m w.heap.size l.length D0 left cnt ∧ ss.length + cnt ≤ Maps.size D0 ∧
      wr.ownsRow w.heap.size 9 1 v ss.length (ss.map encStr) ∧ Hid (ss = all.filter (fun x => decide (k < x))) ∧ Collected D0 left all ∧ Below w.heap.size w wr)
    (fun _ wr => wr.rangeLeft m w.heap.size)
  case atStart =>
    exact ⟨_, _, [], [], hrg0, by simp, World.ownsRow_nil _ _ _ _, hid_of rfl, Collected.start D0, (Below.refl _ _).grown hg0 (Nat.le_refl _) (fun j hj => by cases hj)⟩
  case round =>
    obtain ⟨left, cnt, ss, all, hrg, hcs0, hrow, HSS, hC, hnx⟩ := hrel
    have hcs : ss.length + cnt ≤ l.length := by rw [HSZ.out] at hcs0; exact hcs0
    clear hcs0
    go_wp2_with (first
      | (at_next; refine wpList_next_ranges _ rfl _ rfl 9 law9 RC encStr (fun c : ByteArray => Value.agg #[.string c]) (fun key kl hk => by obtain ⟨x, hx, _⟩ := Maps.keyOf_str Tryd.underlying9 hk; exact ⟨x, hx⟩) inv_agg m w.heap.size l.length _ _ _ rfl hrg ?_ ?_)
      | go_in)
    · intro hcn hl0
      have HP := hid_of (end_perm HR.out HSS.out (by have := hC.perm hown law9 Tryd.underlying9 hl0; rw [HD.out] at this; exact this))
      rcases hrow.2 with ⟨rfl, h0⟩ | ⟨g, cap, cur, rfl, hbase, hb, h1, h2, h3, h4⟩
      · have hc := Tryd.slices_Sort_string_none none 0 wr
        have hss : ss = [] := List.length_eq_zero_iff.1 h0
        subst hss
        clear hrow h0
        go_wp2_with (go_at_call 39; refine hc.mono ?_; rintro e w' ⟨rfl, rfl⟩)
        go_ret
        refine ⟨.slice none 0 0, rfl, ?_, hnx⟩
        rw [← HP.out, List.mergeSort_nil]
        exact World.ownsRow_nil _ _ _ _
      · have hH : Holds encStr wr g 0 ss.toArray := holds_of_block hb (by simpa using h4)
        have hgl : g < wr.heap.size := (Array.getElem?_eq_some_iff.1 hb).1
        have hc := Tryd.slices_Sort_string g 0 cap ss wr hH hgl (by omega)
        go_wp2_with (go_at_call 39; refine hc.mono ?_; rintro e w' ⟨rfl, nn, os, rfl⟩)
        go_ret
        refine ⟨.slice (some ⟨g, 0, none⟩) ss.length cap, rfl, ?_, hnx.grown (grownBy_sorted _) hnx.size (fun j hj => by cases hj; exact hbase)⟩
        have e1 : ss.mergeSort (fun x y => decide (x ≤ y)) = (keys l).filter (fun x => decide (k < x)) := HP.out
        have e2 : ((keys l).filter (fun x => decide (k < x))).length = ss.length := by rw [← e1, List.length_mergeSort]
        rw [e2, ← e1]
        exact ownsRow_sorted (by simp) hbase hb h1 h2 h3
    · intro x c kl yd yp w2 cnt2 hkey hlk hv hat hrg2 hlt hg2 hs2 hen
      obtain ⟨x', ex, rfl, _⟩ := Maps.keyOf_str Tryd.underlying9 hkey
      obtain rfl : x = x' := encStr_inj ex
      have hrow2 := hrow.kept hg2 (Or.inr (row_ne_iter hrow hrg).symm)
      clear hs2
      have hnx2 := hnx.grown hg2 hnx.size (fun j hj => by cases hj; exact Nat.le_refl _)
      have HC := hid_of (gtr_call x k c0b w2 (HK.out w2 hnx2))
      by_cases hP : k < x
      · rw [decide_eq_true hP] at HC
        have HS2 : Hid (ss ++ [x] = (all ++ [x]).filter (fun x => decide (k < x))) := by show _ = _; rw [List.filter_append, ← HSS.out]; simp [hP]
        clear hP
        go_wp2_with fail
        refine HC.out.mono ?_
        rintro e w3 hw3
        obtain ⟨rfl, rfl⟩ := hw3
        go_wp2_with (first
          | (at_builtin; refine wpList_append_own _ rfl _ _ 73 rfl w.heap.size 9 i0 (.string ⟨#[]⟩) 1 16 Tryd.underlying73 hi hz0 hz1 hz2 rfl (by decide) _ _ _ rfl (hrow2.alloc _) ⟨w3.heap.size, 0, none⟩ 1 1 [encStr x] rfl rfl (cell_one_new _ _ _) (by simp [Value.oneCell', encStr]) (by unfold maxLen at *; omega) (by omega) (by have := hnx2.size; simp; omega) ?_; intro v' w4 hown' hg4 hnil4; go_frame)
          | go_in)
        have hrg4 := (hrg2.alloc _).kept hg4 (row_ne_low hrow2 hbl) (row_ne_iter hrow2 hrg2)
        go_roundw
        case rel => exact ⟨_, cnt2, ss ++ [x], all ++ [x], hrg4, by rw [HSZ.out]; simp; omega, by simpa using hown', HS2, hC.step hlk hat, (hnx2.alloc hnx2.size _).grown hg4 (by have := hnx2.size; simp; omega) (fun j hj => (hrow2.lt j hj).1)⟩
        case measure => rw [hrg4.left_eq, hrg.left_eq]; exact hlt
      · rw [decide_eq_false hP] at HC
        have HS2 : Hid (ss = (all ++ [x]).filter (fun x => decide (k < x))) := by show _ = _; rw [List.filter_append, ← HSS.out]; simp [hP]
        clear hP
        go_wp2_with fail
        refine HC.out.mono ?_
        rintro e w3 hw3
        obtain ⟨rfl, rfl⟩ := hw3
        go_wp2_with fail
        go_roundw
        case rel => exact ⟨_, cnt2, ss, all ++ [x], hrg2, by rw [HSZ.out]; omega, hrow2, HS2, hC.step hlk hat, hnx2⟩
        case measure => rw [hrg2.left_eq, hrg.left_eq]; exact hlt
end Go.Proofs.YtolihcgpnoacaaaDoor.Rising
