/- The document's own May: arrays, and all together. -/
import Derived.Test.YtdggpldmkeoeeaaDoorRefMayAll
namespace Go.Proofs.YtdggpldmkeoeeaaDoor.RefMayTop
open Go.RowKit
open Go.Proofs.YtdggpldmkeoeeaaDoor.TextMath
open Go.Proofs.YtdggpldmkeoeeaaDoor.RepMath
open Go.Proofs.YtdggpldmkeoeeaaDoor.Cut
open Go.Proofs.YtdggpldmkeoeeaaDoor.Rep
open Go.Proofs.YtdggpldmkeoeeaaDoor.RefMay
open Go.Proofs.YtdggpldmkeoeeaaDoor.RefMayAll
set_option linter.unusedVariables false

def RMayC (d : Nat) : Prop := ∀ (r : Rp) (a : Option Addr) (cap : Nat) (w : World), Ok r → IsL (· < w.heap.size) w (Rp.list r) a (Rp.list r).length cap →
    Calls Tryd.prog 29 #[rv r a (Rp.list r).length cap, .int .i64 (d : Int)] w fun e w' => e = .returned (.bool (may d r)) ∧ Below w.heap.size w w'

set_option maxRecDepth 100000 in
set_option maxHeartbeats 4000000 in
theorem arrays (d : Nat) (hd : d + 1 ≤ 8) (ih : RMayC d) (t : ByteArray) (n : Int) (l : List Rp) (a : Option Addr) (cap : Nat) (w : World) (bL : Bool) (hL : decide (0 < (l.length : Int)) = bL) (hT : t.toList.isEmpty = true) (hN : (n == 0) = true)
    (hl : l.length ≤ 1048576) (hok : ∀ x, x ∈ l → Ok x) (hI : IsL (· < w.heap.size) w l a l.length cap) :
    Calls Tryd.prog 29 #[.agg #[.int .i64 6, .string t, .int .i64 n, .slice a l.length cap], .int .i64 ((d : Int) + 1)] w fun e w' => e = .returned (.bool (l.all (may d))) ∧ Below w.heap.size w w' := by
  have hN2 : (n != 0) = false := by unfold bne; rw [hN]; rfl
  have hd0 : ((d : Int) + 1 == 0) = false := by rw [beq_eq_false_iff_ne]; omega
  have hd1 : (d : Int) + 1 - 1 = d := by omega
  have HI := hid_of hI
  have HO := hid_of hok
  have HC := hid_of ih
  have hL2 : (bL = true ∧ 0 < l.length) ∨ (bL = false ∧ ¬ 0 < l.length) := by
    cases bL
    · exact Or.inr ⟨rfl, by simpa using hL⟩
    · exact Or.inl ⟨rfl, by simpa using hL⟩
  clear hI hok ih hL
  rcases hL2 with ⟨rfl, hpos⟩ | ⟨rfl, hpos⟩
  · go_enter Tryd.func29, Tryd.ntmps29
    go_wp2_with fail
    go_loopg [6] l.length (fun g s6 wx => ∃ k : Nat, k ≤ l.length ∧ l.length ≤ k + g ∧ s6 = .int .i64 k ∧ Hid (Below (w.heap.size + 1) (w.alloc (box 6 t n a l.length cap)) wx) ∧ Hid ((l.take k).all (may d) = true))
    case atStart => exact ⟨0, by omega, by omega, rfl, Below.refl _ _, rfl⟩
    case round =>
      obtain ⟨k, hk, hg, rfl, HW, HA⟩ := hrel
      obtain ⟨e0, e1, e2, e3⟩ := box_at HW.out
      by_cases hlt : k < l.length
      · obtain ⟨g', rfl⟩ : ∃ g', gk = g' + 1 := ⟨gk - 1, by omega⟩
        obtain ⟨b, o, x, y, z, rfl, hb, c0, c1, c2, c3, hx⟩ := (HI.out.stays (box_below HW.out)).at k hlt
        obtain rfl := hx.len
        have HX := hid_of hx
        have HK := hid_of (HO.out _ (List.getElem_mem hlt))
        have HS := hid_of (box_below HW.out).size
        have HT : Hid ((l.take (k + 1)).all (may d) = ((l.take k).all (may d) && may d l[k])) := by
          show _ = _
          rw [List.take_succ_eq_append_getElem hlt, List.all_append]; simp
        clear hx hb
        go_wp2_with fail
        refine (HC.out l[k] x z _ HK.out ?_).mono ?_
        · exact HX.out.go fun c hc => ⟨Nat.lt_of_lt_of_le hc HS.out, rfl⟩
        · rintro e w1 ⟨rfl, b1⟩
          have HW1 : Hid (Below (w.heap.size + 1) (w.alloc (box 6 t n (some ⟨b, o, none⟩) l.length cap)) w1) := HW.out.trans (b1.mono (by have := HW.out.size; simp at this; omega))
          clear b1
          cases hm : may d l[k] with
          | true =>
            rw [hm] at HT
            clear hm
            go_wp2_with fail
            go_roundg g'
            case measure => omega
            case rel => exact ⟨k + 1, hlt, by omega, rfl, HW1, by show _ = _; rw [HT.out, HA.out]; rfl⟩
          | false =>
            have HR : Hid (l.all (may d) = false) := by
              show _ = _
              rw [← Bool.not_eq_true, List.all_eq_true]
              intro hall
              have := hall _ (List.getElem_mem hlt)
              rw [hm] at this
              cases this
            clear hm
            go_wp2_with fail
            go_ret
            exact ⟨ret_b HR.out.symm, box_below HW1.out⟩
      · have HR : Hid (l.all (may d) = true) := by
          show _ = _
          have := HA.out
          rwa [List.take_of_length_le (by omega)] at this
        go_wp2_with fail
        go_ret
        exact ⟨ret_b HR.out.symm, box_below HW.out⟩
  · obtain rfl : l = [] := by
      cases l with
      | nil => rfl
      | cons x l => exact absurd (Nat.succ_pos _) hpos
    clear hpos
    go_enter Tryd.func29, Tryd.ntmps29
    go_wp2_with fail
    go_loopg [6] 0 (fun g s6 wx => s6 = .int .i64 0 ∧ Hid (Below (w.heap.size + 1) (w.alloc (box 6 t n a 0 cap)) wx))
    case atStart => exact ⟨rfl, Below.refl _ _⟩
    case round =>
      obtain ⟨rfl, HW⟩ := hrel
      obtain ⟨c0, c1, c2, c3⟩ := box_at HW.out
      go_wp2_with fail
      go_ret
      exact ⟨rfl, box_below HW.out⟩

theorem gt_of (l : List Rp) (h : l ≠ []) : decide (0 < (l.length : Int)) = true := by
  cases l with
  | nil => exact absurd rfl h
  | cons x l => simp
theorem cons_false {b : Bool} (l : List Rp) (h : l ≠ []) : (b && l.isEmpty) = false := by
  cases l with
  | nil => exact absurd rfl h
  | cons x l => cases b <;> rfl
theorem one (d : Nat) (hd : d ≤ 8) (ih : ∀ e, e + 1 = d → RMayC e) : RMayC d := by
  rintro ⟨k, t, n, l⟩ a cap w hok hi
  rcases hok with ⟨_, _, _, _, h1, h2, h3, h4, h5⟩
  show Calls Tryd.prog 29 #[.agg #[.int .i64 k, .string t, .int .i64 n, .slice a l.length cap], .int .i64 (d : Int)] w fun e w' => e = .returned (.bool (may d (.mk k t n l))) ∧ Below w.heap.size w w'
  by_cases hk : 1 ≤ k ∧ k ≤ 7
  · cases hT : t.toList.isEmpty with
    | false =>
      have hs : (t.size == 0) = false := (empty_b t).symm.trans hT
      rcases (show (k = 1 ∨ k = 2) ∨ k = 4 ∨ (k = 3 ∨ k = 5 ∨ k = 6 ∨ k = 7) from by omega) with h | rfl | h
      · rw [may_text d k t n l h]
        cases hN : (n == 0) with
        | false => exact bad_num d k t n a _ cap w false hT (by omega) hN
        | true =>
          by_cases hl : l = []
          · subst hl
            exact texts d k h t n a cap w false hT hN h3
          · rw [cons_false l hl]
            exact bad_list d k t n a _ cap w false true hT hN (Or.inl ⟨rfl, by omega⟩) (gt_of l hl)
      · rw [may_bulk]
        cases hN : (n == 0) with
        | false => exact bad_num d 4 t n a _ cap w false hT (by omega) hN
        | true =>
          by_cases hl : l = []
          · subst hl
            exact leaf d 4 t n a cap w false true hT hN (Or.inr (Or.inl ⟨rfl, rfl⟩))
          · rw [cons_false l hl]
            exact bad_list d 4 t n a _ cap w false true hT hN (Or.inl ⟨rfl, by omega⟩) (gt_of l hl)
      · have e : may d (.mk k t n l) = false := by rcases h with rfl | rfl | rfl | rfl <;> cases d <;> simp [may, hs]
        rw [e]
        exact bad_text d k h t n a _ cap w hT
    | true =>
      have hs : (t.size == 0) = true := (empty_b t).symm.trans hT
      rcases (show (k = 1 ∨ k = 2) ∨ k = 4 ∨ k = 3 ∨ k = 5 ∨ k = 6 ∨ k = 7 from by omega) with h | rfl | rfl | rfl | rfl | rfl
      · rw [may_text d k t n l h]
        cases hN : (n == 0) with
        | false => exact bad_num d k t n a _ cap w true hT (by omega) hN
        | true =>
          by_cases hl : l = []
          · subst hl
            exact texts d k h t n a cap w true hT hN h3
          · rw [cons_false l hl]
            exact bad_list d k t n a _ cap w true true hT hN (Or.inl ⟨rfl, by omega⟩) (gt_of l hl)
      · rw [may_bulk]
        cases hN : (n == 0) with
        | false => exact bad_num d 4 t n a _ cap w true hT (by omega) hN
        | true =>
          by_cases hl : l = []
          · subst hl
            exact leaf d 4 t n a cap w true true hT hN (Or.inr (Or.inl ⟨rfl, rfl⟩))
          · rw [cons_false l hl]
            exact bad_list d 4 t n a _ cap w true true hT hN (Or.inl ⟨rfl, by omega⟩) (gt_of l hl)
      · rw [may_int, hs]
        by_cases hl : l = []
        · subst hl
          exact leaf d 3 t n a cap w true (n == 0) hT rfl (Or.inl ⟨rfl, rfl⟩)
        · rw [cons_false l hl]
          exact bad_list d 3 t n a _ cap w true (n == 0) hT rfl (Or.inr (Or.inl ⟨rfl, rfl⟩)) (gt_of l hl)
      · rw [may_null, hs]
        cases hN : (n == 0) with
        | false => exact bad_num d 5 t n a _ cap w true hT (Or.inr (Or.inr (Or.inr ⟨rfl, Or.inl rfl⟩))) hN
        | true =>
          by_cases hl : l = []
          · subst hl
            exact leaf d 5 t n a cap w true true hT hN (Or.inr (Or.inr (Or.inl ⟨rfl, rfl, rfl⟩)))
          · rw [cons_false l hl]
            exact bad_list d 5 t n a _ cap w true true hT hN (Or.inr (Or.inr ⟨rfl, rfl, Or.inl rfl⟩)) (gt_of l hl)
      · cases hN : (n == 0) with
        | false =>
          have e : may d (.mk 6 t n l) = false := by cases d <;> simp [may, hN]
          rw [e]
          exact bad_num d 6 t n a _ cap w true hT (Or.inr (Or.inr (Or.inr ⟨rfl, Or.inr (Or.inl rfl)⟩))) hN
        | true =>
          cases d with
          | zero =>
            rw [may_array0]
            exact deep_end 6 t n a _ cap w hT hN (Or.inl rfl)
          | succ d =>
            rw [may_array, hs, hN]
            exact arrays d hd (ih d rfl) t n l a cap w _ rfl hT hN h4 h5 hi
      · cases hN : (n == 0) with
        | false =>
          have e : may d (.mk 7 t n l) = false := by cases d <;> simp [may, hN]
          rw [e]
          exact bad_num d 7 t n a _ cap w true hT (Or.inr (Or.inr (Or.inr ⟨rfl, Or.inr (Or.inr rfl)⟩))) hN
        | true =>
          by_cases hl : l = []
          · subst hl
            cases d with
            | zero =>
              rw [may_none0]
              exact deep_end 7 t n a _ cap w hT hN (Or.inr ⟨rfl, rfl⟩)
            | succ d =>
              rw [may_none, hs, hN]
              exact leaf _ 7 t n a cap w true true hT hN (Or.inr (Or.inr (Or.inr ⟨rfl, rfl, rfl, by rw [beq_eq_false_iff_ne]; omega⟩)))
          · have e : may d (.mk 7 t n l) = false := by
              cases d with
              | zero => rw [may_none0]
              | succ d => rw [may_none, hs, hN, cons_false l hl]
            rw [e]
            exact bad_list d 7 t n a _ cap w true true hT hN (Or.inr (Or.inr ⟨rfl, rfl, Or.inr rfl⟩)) (gt_of l hl)
  · rw [may_other _ _ _ _ _ hk]
    exact bad_kind d k t n a _ cap w (by omega)
theorem rmay_any : ∀ d : Nat, d ≤ 8 → RMayC d := by
  intro d
  induction d with
  | zero => exact fun h => one 0 h (fun e he => by omega)
  | succ d ih => exact fun h => one (d + 1) h (fun e he => by
    have hed : e = d := by omega
    subst hed
    exact ih (by omega))
set_option maxHeartbeats 1000000 in
theorem rmay_top (r : Rp) (a : Option Addr) (cap : Nat) (w : World) (hok : Ok r) (hI : IsL (· < w.heap.size) w (Rp.list r) a (Rp.list r).length cap) :
    Calls Tryd.prog 13 #[rv r a (Rp.list r).length cap] w fun e w' => e = .returned (.bool (may 8 r)) ∧ Below w.heap.size w w' := by
  have HC := hid_of (rmay_any 8 (Nat.le_refl _) r a cap (w.alloc (box (Rp.kind r) (Rp.text r) (Rp.num r) a (Rp.list r).length cap)) hok (hI.go fun c hc => ⟨Nat.lt_of_lt_of_le hc (by simp), Lib.alloc_old _ _ _ hc⟩))
  unfold rv box at HC
  unfold rv
  clear hI
  go_enter Tryd.func13, Tryd.ntmps13
  go_wp2_with (go_at_call 29; refine HC.out.mono ?_; rintro e w1 ⟨rfl, b1⟩)
  go_ret
  exact ⟨rfl, ((Below.refl _ w).alloc (Nat.le_refl _) _).trans (b1.mono (by simp))⟩
end Go.Proofs.YtdggpldmkeoeeaaDoor.RefMayTop
