/- The document's own May, at every reply. -/
import Derived.Test.YtdggpldmkeoeeaaDoorRefMay
namespace Go.Proofs.YtdggpldmkeoeeaaDoor.RefMayAll
open Go.RowKit
open Go.Proofs.YtdggpldmkeoeeaaDoor.TextMath
open Go.Proofs.YtdggpldmkeoeeaaDoor.RepMath
open Go.Proofs.YtdggpldmkeoeeaaDoor.Cut
open Go.Proofs.YtdggpldmkeoeeaaDoor.Rep
open Go.Proofs.YtdggpldmkeoeeaaDoor.RefMay
set_option linter.unusedVariables false

theorem take_snoc (s : ByteArray) (k : Nat) (h : k < s.size) : (bs s).take (k + 1) = (bs s).take k ++ [s[k]] := by
  have hl : k < (bs s).length := by rw [len_bs]; exact h
  rw [List.take_succ_eq_append_getElem hl]; rfl
/- an array or its nothing, too deep -/
set_option maxRecDepth 100000 in
set_option maxHeartbeats 4000000 in
theorem deep_end (k : Int) (t : ByteArray) (n : Int) (a : Option Addr) (len cap : Nat) (w : World) (hT : t.toList.isEmpty = true) (hN : (n == 0) = true) (hk : k = 6 ∨ (k = 7 ∧ len = 0)) :
    Calls Tryd.prog 29 #[.agg #[.int .i64 k, .string t, .int .i64 n, .slice a len cap], .int .i64 0] w fun e w' => e = .returned (.bool false) ∧ Below w.heap.size w w' := by
  have hN2 : (n != 0) = false := by unfold bne; rw [hN]; rfl
  have hc : k = 6 ∧ len = 0 ∨ k = 6 ∧ 0 < len ∨ k = 7 ∧ len = 0 := by omega
  clear hk
  rcases hc with ⟨rfl, rfl⟩ | ⟨rfl, h⟩ | ⟨rfl, rfl⟩
  all_goals
    go_enter Tryd.func29, Tryd.ntmps29
    go_wp2_with fail
    go_ret
    exact ⟨rfl, alloc_b _ _⟩
/- what has no list, and a good head -/
set_option maxRecDepth 100000 in
set_option maxHeartbeats 4000000 in
theorem leaf (d k : Int) (t : ByteArray) (n : Int) (a : Option Addr) (cap : Nat) (w : World) (bT bN : Bool) (hT : t.toList.isEmpty = bT) (hN : (n == 0) = bN)
    (hk : (k = 3 ∧ bT = true) ∨ (k = 4 ∧ bN = true) ∨ (k = 5 ∧ bT = true ∧ bN = true) ∨ (k = 7 ∧ bT = true ∧ bN = true ∧ (d == 0) = false)) :
    Calls Tryd.prog 29 #[.agg #[.int .i64 k, .string t, .int .i64 n, .slice a 0 cap], .int .i64 d] w fun e w' => e = .returned (.bool true) ∧ Below w.heap.size w w' := by
  have hN2 : (n != 0) = !bN := by unfold bne; rw [hN]
  rcases hk with ⟨rfl, rfl⟩ | ⟨rfl, rfl⟩ | ⟨rfl, rfl, rfl⟩ | ⟨rfl, rfl, rfl, hd⟩ <;> (try cases bT) <;> (try cases bN)
  all_goals
    go_enter Tryd.func29, Tryd.ntmps29
    go_wp2_with fail
    go_loopg [6] 0 (fun g s6 wx => s6 = .int .i64 0 ∧ Hid (Below (w.heap.size + 1) (w.alloc (box _ t n a 0 cap)) wx))
    case atStart => exact ⟨rfl, Below.refl _ _⟩
    case round =>
      obtain ⟨rfl, HW⟩ := hrel
      obtain ⟨c0, c1, c2, c3⟩ := box_at HW.out
      go_wp2_with fail
      go_ret
      exact ⟨rfl, box_below HW.out⟩
set_option maxRecDepth 100000 in
set_option maxHeartbeats 4000000 in
theorem texts (d k : Int) (hk : k = 1 ∨ k = 2) (t : ByteArray) (n : Int) (a : Option Addr) (cap : Nat) (w : World) (bT : Bool) (hT : t.toList.isEmpty = bT) (hN : (n == 0) = true) (ht : t.size ≤ 1048576) :
    Calls Tryd.prog 29 #[.agg #[.int .i64 k, .string t, .int .i64 n, .slice a 0 cap], .int .i64 d] w fun e w' => e = .returned (.bool (noEnd (bs t))) ∧ Below w.heap.size w w' := by
  have hN2 : (n != 0) = false := by unfold bne; rw [hN]; rfl
  rcases hk with rfl | rfl <;> cases bT
  all_goals
    go_enter Tryd.func29, Tryd.ntmps29
    go_wp2_with fail
    go_loopg [5] t.size (fun g s5 wx => ∃ j : Nat, j ≤ t.size ∧ t.size ≤ j + g ∧ s5 = .int .i64 j ∧ Hid (Below (w.heap.size + 1) (w.alloc (box _ t n a 0 cap)) wx ∧ noEnd ((bs t).take j) = true))
    case atStart => exact ⟨0, by omega, by omega, rfl, Below.refl _ _, rfl⟩
    case round =>
      obtain ⟨j, hj, hg, rfl, HW⟩ := hrel
      obtain ⟨c0, c1, c2, c3⟩ := box_at HW.out.1
      by_cases hlt : j < t.size
      · obtain ⟨g', rfl⟩ : ∃ g', gk = g' + 1 := ⟨gk - 1, by omega⟩
        have HS : Hid (noEnd ((bs t).take (j + 1)) = (!((t[j]).toNat == 13) && !((t[j]).toNat == 10))) := by
          show _ = _
          rw [take_snoc t j hlt]
          have h1 := HW.out.2
          unfold noEnd at *
          rw [List.all_append, h1, Bool.true_and]
          simp
        have HF : Hid ((!((t[j]).toNat == 13) && !((t[j]).toNat == 10)) = false → noEnd (bs t) = false) := by
          intro hf
          rw [← Bool.not_eq_true]
          intro ha
          have hm : t[j] ∈ bs t := by
            have hl : j < (bs t).length := by rw [len_bs]; exact hlt
            exact List.getElem_mem hl
          unfold noEnd at ha
          have := List.all_eq_true.1 ha _ hm
          rw [hf] at this
          cases this
        have hcase : ((t[j].toNat : Int) == 13) = true ∨ (((t[j].toNat : Int) == 13) = false ∧ ((t[j].toNat : Int) == 10) = true) ∨ (((t[j].toNat : Int) == 13) = false ∧ ((t[j].toNat : Int) == 10) = false) := by
          cases ((t[j].toNat : Int) == 13) <;> cases ((t[j].toNat : Int) == 10) <;> simp
        have b13 : ((t[j].toNat : Int) == 13) = (t[j].toNat == 13) := by rw [Bool.eq_iff_iff, beq_iff_eq, beq_iff_eq]; omega
        have b10 : ((t[j].toNat : Int) == 10) = (t[j].toNat == 10) := by rw [Bool.eq_iff_iff, beq_iff_eq, beq_iff_eq]; omega
        rw [← b13, ← b10] at HS HF
        clear b13 b10
        rcases hcase with t1 | ⟨t1, t2⟩ | ⟨t1, t2⟩
        · have HR : Hid (noEnd (bs t) = false) := HF.out (by rw [t1]; rfl)
          clear HS HF
          go_wp2_with fail
          go_ret
          exact ⟨ret_b HR.out.symm, box_below HW.out.1⟩
        · have HR : Hid (noEnd (bs t) = false) := HF.out (by rw [t1, t2]; rfl)
          clear HS HF
          go_wp2_with fail
          go_ret
          exact ⟨ret_b HR.out.symm, box_below HW.out.1⟩
        · rw [t1, t2] at HS
          clear HF
          go_wp2_with fail
          go_roundg g'
          case measure => omega
          case rel => exact ⟨j + 1, hlt, by omega, rfl, HW.out.1, HS.out⟩
      · have HR : Hid (noEnd (bs t) = true) := by
          have h1 := HW.out.2
          rw [List.take_of_length_le (by rw [len_bs]; omega)] at h1
          exact h1
        go_wp2_with fail
        go_loopg [6] 0 (fun g s6 wx => s6 = .int .i64 0 ∧ Hid (Below (w.heap.size + 1) (w.alloc (box _ t n a 0 cap)) wx))
        case atStart => exact ⟨rfl, HW.out.1⟩
        case round =>
          obtain ⟨rfl, HV⟩ := hrel
          obtain ⟨c0, c1, c2, c3⟩ := box_at HV.out
          go_wp2_with fail
          go_ret
          exact ⟨ret_b HR.out.symm, box_below HV.out⟩
end Go.Proofs.YtdggpldmkeoeeaaDoor.RefMayAll
