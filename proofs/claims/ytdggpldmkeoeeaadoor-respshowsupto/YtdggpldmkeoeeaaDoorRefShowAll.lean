/- The document's own Show, at every reply. -/
import Derived.Test.YtdggpldmkeoeeaaDoorRefShow
namespace Go.Proofs.YtdggpldmkeoeeaaDoor.RefShowAll
open Go.RowKit
open Go.Proofs.YtdggpldmkeoeeaaDoor.TextMath
open Go.Proofs.YtdggpldmkeoeeaaDoor.RepMath
open Go.Proofs.YtdggpldmkeoeeaaDoor.Cut
open Go.Proofs.YtdggpldmkeoeeaaDoor.Rep
open Go.Proofs.YtdggpldmkeoeeaaDoor.RefMay (box box_at box_below)
open Go.Proofs.YtdggpldmkeoeeaaDoor.RefMayTop
open Go.Proofs.YtdggpldmkeoeeaaDoor.Print (rprint_any ret_s)
open Go.Proofs.YtdggpldmkeoeeaaDoor.Builder
open Go.Proofs.YtdggpldmkeoeeaaDoor.Show
open Go.Proofs.YtdggpldmkeoeeaaDoor.Shown
open Go.Proofs.YtdggpldmkeoeeaaDoor.ShowAll
open Go.Proofs.YtdggpldmkeoeeaaDoor.Own
open Go.Proofs.YtdggpldmkeoeeaaDoor.RefShow
set_option linter.unusedVariables false

theorem may_up : ∀ (d : Nat) (r : Rp), may d r = true → may (d + 1) r = true := by
  intro d
  induction d with
  | zero =>
    rintro ⟨k, t, n, l⟩ h
    unfold may at h ⊢
    rw [h]; rfl
  | succ d ih =>
    rintro ⟨k, t, n, l⟩ h
    by_cases hk : k = 6
    · subst hk
      rw [may_array] at h ⊢
      rw [Bool.and_eq_true] at h ⊢
      refine ⟨h.1, ?_⟩
      rw [List.all_eq_true] at *
      exact fun x hx => ih x (h.2 x hx)
    · have e : ∀ d, may (d + 1) (.mk k t n l) = may (d + 1 + 1) (.mk k t n l) := by
        intro d
        have h6 : (k == 6) = false := by rw [beq_eq_false_iff_ne]; exact hk
        simp [may, h6]
      rw [← e]; exact h
theorem may_le {d e : Nat} (h : d ≤ e) (r : Rp) (hm : may d r = true) : may e r = true := by
  induction h with
  | refl => exact hm
  | step _ ih => exact may_up _ _ ih
theorem bs_app (a b : ByteArray) : bs (a ++ b) = bs a ++ bs b := by unfold bs; simp
theorem size_app (a b : ByteArray) : (a ++ b).size = a.size + b.size := by rw [← len_bs, bs_app, List.length_append, len_bs, len_bs]
theorem of_bs {a b : ByteArray} (h : bs a = bs b) : a = b := by
  cases a; cases b
  unfold bs at h
  congr 1
  exact Array.toList_inj.1 h
theorem bs_inj {a : ByteArray} {l : List UInt8} (h : bs a = l) : a = ⟨l.toArray⟩ := of_bs (by rw [h, bs_mk])

def RShowC (d : Nat) : Prop := ∀ (r : Rp) (a : Option Addr) (cap : Nat) (w : World), Ok r → may d r = true → IsL (· < w.heap.size) w (Rp.list r) a (Rp.list r).length cap → 8 * wt d r ≤ 10000000 →
    Calls Tryd.prog 24 #[rv r a (Rp.list r).length cap] w fun e w' => e = .returned (.string ⟨(shown d r).toArray⟩) ∧ Below w.heap.size w w'

theorem box_w {w W : World} {o : Obj} (h : Below w.heap.size w W) : Below (W.heap.size + 1) (W.alloc o) (W.alloc o) := Below.refl _ _
set_option maxRecDepth 100000 in
set_option maxHeartbeats 2000000 in
theorem rshow_leaf (d : Nat) (hd : d ≤ 8) (k : Int) (hk : k ≠ 6) (t : ByteArray) (n : Int) (l : List Rp) (a : Option Addr) (cap : Nat) (w : World) (hok : Ok (.mk k t n l)) (hm : may d (.mk k t n l) = true) (hI : IsL (· < w.heap.size) w l a l.length cap) :
    Calls Tryd.prog 24 #[.agg #[.int .i64 k, .string t, .int .i64 n, .slice a l.length cap]] w fun e w' => e = .returned (.string ⟨(shown d (.mk k t n l)).toArray⟩) ∧ Below w.heap.size w w' := by
  have HM := hid_of (rmay_top (.mk k t n l) a cap (w.alloc (box k t n a l.length cap)) hok (hI.go fun c hc => ⟨Nat.lt_of_lt_of_le hc (by simp), Lib.alloc_old _ _ _ hc⟩))
  rw [may_le hd _ hm] at HM
  have HM2 : Hid (Calls Tryd.prog 13 #[.agg #[.int .i64 k, .string t, .int .i64 n, .slice a l.length cap]] (w.alloc (.cells #[.int .i64 k, .string t, .int .i64 n, .slice a l.length cap] 24)) fun e w' => e = .returned (.bool true) ∧ Below (w.heap.size + 1) (w.alloc (box k t n a l.length cap)) w') := HM.out.mono fun e w' h => ⟨h.1, h.2.mono (by simp)⟩
  rcases hok with ⟨_, _, _, _, h1, h2, h3, h4, h5⟩
  have HN := hid_of h2
  have hsz : t.size ≤ 1048576 := h3
  clear HM hI h4 h5
  by_cases hk2 : 1 ≤ k ∧ k ≤ 7
  · rcases (show (k = 1 ∨ k = 2) ∨ k = 3 ∨ k = 4 ∨ (k = 5 ∨ k = 7) from by omega) with e | rfl | rfl | e
    · have HS := hid_of (shown_simple d k e t n l)
      clear hm hk2 hk h2
      rcases e with rfl | rfl
      · go_enter Tryd.func24, Tryd.ntmps24
        go_wp2_with fail
        refine HM2.out.mono ?_
        rintro e w1 ⟨rfl, b1⟩
        obtain ⟨c0, c1, c2, c3⟩ := box_at b1
        have BW := hid_of (box_below b1)
        clear b1
        go_wp2_with fail
        go_ret
        exact ⟨ret_s (bs_inj HS.out.symm), BW.out⟩
      · go_enter Tryd.func24, Tryd.ntmps24
        go_wp2_with fail
        refine HM2.out.mono ?_
        rintro e w1 ⟨rfl, b1⟩
        obtain ⟨c0, c1, c2, c3⟩ := box_at b1
        have BW := hid_of (box_below b1)
        clear b1
        go_wp2_with fail
        go_ret
        exact ⟨ret_s (bs_inj (by rw [bs_app]; exact HS.out.symm)), BW.out⟩
    · have HS := hid_of (shown_int d t n l)
      have HL := hid_of (itoa_len h2)
      clear hm hk2 hk h2
      go_enter Tryd.func24, Tryd.ntmps24
      go_wp2_with fail
      refine HM2.out.mono ?_
      rintro e w1 ⟨rfl, b1⟩
      obtain ⟨c0, c1, c2, c3⟩ := box_at b1
      have BW := hid_of (box_below b1)
      clear b1
      go_wp2_with fail
      obtain ⟨S, hS⟩ : ∃ S : ByteArray, S = ⟨(Go.Lib.itoa n).toArray⟩ := ⟨_, rfl⟩
      have HP := hid_of (rprint_any n w1 HN.out)
      rw [← hS] at HP
      have hq : S.size ≤ 21 := by rw [hS, size_mk]; exact HL.out
      have HB : Hid (bs S = Go.Lib.itoa n) := by show _ = _; rw [hS, bs_mk]
      clear hS
      refine HP.out.mono ?_
      rintro e w2 ⟨rfl, b2⟩
      have BW2 := hid_of (below_go BW.out b2)
      clear b2
      go_wp2_with fail
      go_ret
      exact ⟨ret_s (bs_inj (by rw [bs_app, HB.out]; exact HS.out.symm)), BW2.out⟩
    · have HS := hid_of (shown_bulk d t n l)
      clear hm hk2 hk h2
      go_enter Tryd.func24, Tryd.ntmps24
      go_wp2_with fail
      refine HM2.out.mono ?_
      rintro e w1 ⟨rfl, b1⟩
      obtain ⟨c0, c1, c2, c3⟩ := box_at b1
      have BW := hid_of (box_below b1)
      clear b1
      go_wp2_with fail
      refine (rquoted_any t _ hsz).mono ?_
      rintro e w2 ⟨rfl, b2⟩
      go_wp2_with fail
      go_ret
      exact ⟨ret_s (by rw [HS.out]), below_go BW.out b2⟩
    · have HS := hid_of (shown_fix d k e t n l)
      clear hm hk2 hk h2
      rcases e with rfl | rfl
      all_goals
        go_enter Tryd.func24, Tryd.ntmps24
        go_wp2_with fail
        refine HM2.out.mono ?_
        rintro e w1 ⟨rfl, b1⟩
        obtain ⟨c0, c1, c2, c3⟩ := box_at b1
        have BW := hid_of (box_below b1)
        clear b1
        go_wp2_with fail
        go_ret
        exact ⟨ret_s (bs_inj HS.out.symm), BW.out⟩
  · rw [may_other _ _ _ _ _ hk2] at hm; cases hm
set_option maxRecDepth 100000 in
set_option maxHeartbeats 2000000 in
theorem rshow_array (d : Nat) (hd : d + 1 ≤ 8) (ih : RShowC d) (t : ByteArray) (n : Int) (l : List Rp) (a : Option Addr) (cap : Nat) (w : World) (hok : Ok (.mk 6 t n l)) (hm : may (d + 1) (.mk 6 t n l) = true) (hI : IsL (· < w.heap.size) w l a l.length cap) (hw : 8 * (l.map (wt d)).sum + 40 ≤ 10000000) :
    Calls Tryd.prog 24 #[.agg #[.int .i64 6, .string t, .int .i64 n, .slice a l.length cap]] w fun e w' => e = .returned (.string ⟨(shown (d + 1) (.mk 6 t n l)).toArray⟩) ∧ Below w.heap.size w w' := by
  have HM := hid_of (rmay_top (.mk 6 t n l) a cap (w.alloc (box 6 t n a l.length cap)) hok (hI.go fun c hc => ⟨Nat.lt_of_lt_of_le hc (by simp), Lib.alloc_old _ _ _ hc⟩))
  rw [may_le hd _ hm] at HM
  have HM2 : Hid (Calls Tryd.prog 13 #[.agg #[.int .i64 6, .string t, .int .i64 n, .slice a l.length cap]] (w.alloc (.cells #[.int .i64 6, .string t, .int .i64 n, .slice a l.length cap] 24)) fun e w' => e = .returned (.bool true) ∧ Below (w.heap.size + 1) (w.alloc (box 6 t n a l.length cap)) w') := HM.out.mono fun e w' h => ⟨h.1, h.2.mono (by simp)⟩
  rcases hok with ⟨_, _, _, _, h1, h2, h3, h4, h5⟩
  rw [may_array, Bool.and_eq_true, List.all_eq_true] at hm
  have HO := hid_of h5
  have HE := hid_of hm.2
  have HI := hid_of hI
  have HC := hid_of ih
  have HS := hid_of (shown_array d t n l)
  have hl := h4
  have HJ := hid_of (fun k => joined_len d (l.take k) (fun r hr => h5 r (List.mem_of_mem_take hr)) (fun r hr => hm.2 r (List.mem_of_mem_take hr)))
  clear HM hI h5 hm ih h1 h2 h3 h4
  go_enter Tryd.func24, Tryd.ntmps24
  go_wp2_with fail
  refine HM2.out.mono ?_
  rintro e w1 ⟨rfl, b1⟩
  obtain ⟨c0, c1, c2, c3⟩ := box_at b1
  have BW := hid_of b1
  clear b1
  go_wp2_with fail
  go_loopg [3, 4] l.length (fun g s3 s4 wx => ∃ (k : Nat) (S : ByteArray), k ≤ l.length ∧ l.length ≤ k + g ∧ s4 = .int .i64 k ∧ s3 = .string S ∧ S.size ≤ 10000000 ∧ Hid (bs S = [91] ++ upTo d l k ∧ Below (w.heap.size + 1) (w.alloc (box 6 t n a l.length cap)) wx))
  case atStart => exact ⟨0, ⟨#[91]⟩, by omega, by omega, rfl, rfl, by decide, rfl, BW.out⟩
  case round =>
    obtain ⟨k, S, hk, hg, rfl, rfl, hS, HH⟩ := hrel
    obtain ⟨e0, e1, e2, e3⟩ := box_at HH.out.2
    have HU : Hid (S.size + 8 * ((l.map (wt d)).sum - ((l.take k).map (wt d)).sum) + 30 ≤ 10000000) := by
      show _ ≤ _
      have j := HJ.out k
      have s := sum_take (wt d) l k
      rw [← len_bs, HH.out.1]
      unfold upTo
      rw [List.length_append]
      show 1 + _ + _ + 30 ≤ _
      omega
    by_cases hlt : k < l.length
    · obtain ⟨g', rfl⟩ : ∃ g', gk = g' + 1 := ⟨gk - 1, by omega⟩
      obtain ⟨bl, o, ea, el, ec, rfl, hb, f0, f1, f2, f3, hx2⟩ := (HI.out.stays (box_below HH.out.2)).at k hlt
      obtain rfl := hx2.len
      have HX := hid_of hx2
      have HN := hid_of (upTo_next d l k hlt)
      have HA := hid_of (sum_take_at (wt d) l k hlt)
      have HSz := hid_of (box_below HH.out.2).size
      have HL := hid_of (shown_len d l[k] (HO.out _ (List.getElem_mem hlt)) (HE.out _ (List.getElem_mem hlt)))
      obtain ⟨T, hT⟩ : ∃ T : ByteArray, T = ⟨(shown d l[k]).toArray⟩ := ⟨_, rfl⟩
      have HP := hid_of (HC.out l[k] ea ec wr (HO.out _ (List.getElem_mem hlt)) (HE.out _ (List.getElem_mem hlt)) (HX.out.go fun c hc => ⟨Nat.lt_of_lt_of_le hc HSz.out, rfl⟩) (by have := HA.out; omega))
      rw [← hT] at HP
      have HB : Hid (bs T = shown d l[k]) := by show _ = _; rw [hT, bs_mk]
      have hq : T.size ≤ 10000000 := by have := HL.out; have := HA.out; have := HU.out; rw [hT, size_mk]; omega
      have HQ : Hid (S.size + 2 + T.size ≤ 10000000) := by
        have := HL.out; have := HA.out; have := HU.out
        have e : T.size = (shown d l[k]).length := by rw [hT, size_mk]
        show _ ≤ _
        omega
      clear hT hx2 hb
      by_cases h0 : k = 0
      · have HZ := hid_of h0
        have hnp : ¬ 0 < k := by omega
        rw [if_pos h0] at HN
        clear h0
        go_wp2_with fail
        refine HP.out.mono ?_
        rintro e w2 ⟨rfl, b2⟩
        have B2 := hid_of (HH.out.2.trans (b2.mono (by have := HH.out.2.size; simp at this; omega)))
        clear b2
        go_wp2_with fail
        go_roundg g'
        case measure => omega
        case rel =>
          refine ⟨k + 1, _, hlt, by omega, rfl, rfl, by rw [size_app]; have := HQ.out; omega, ?_, B2.out⟩
          rw [bs_app, HB.out, HH.out.1, HN.out]
          have e0 : upTo d l k = [] := by rw [HZ.out]; rfl
          rw [e0]; rfl
      · have hpos : 0 < k := by omega
        rw [if_neg h0] at HN
        clear h0
        go_wp2_with fail
        refine HP.out.mono ?_
        rintro e w2 ⟨rfl, b2⟩
        have B2 := hid_of (HH.out.2.trans (b2.mono (by have := HH.out.2.size; simp at this; omega)))
        clear b2
        have hS2 : (S ++ { data := #[44, 32] } : ByteArray).size ≤ 10000000 := by rw [size_app]; show S.size + 2 ≤ _; have := HQ.out; omega
        go_wp2_with fail
        go_roundg g'
        case measure => omega
        case rel =>
          refine ⟨k + 1, _, hlt, by omega, rfl, rfl, by rw [size_app, size_app]; show S.size + 2 + _ ≤ _; have := HQ.out; omega, ?_, B2.out⟩
          rw [bs_app, bs_app, HB.out, HH.out.1, HN.out]
          simp [bs]
    · have HT : Hid (upTo d l k = joined (l.map (shown d))) := by show _ = _; unfold upTo; rw [List.take_of_length_le (by omega)]
      go_wp2_with fail
      go_ret
      exact ⟨ret_s (bs_inj (by rw [bs_app, HH.out.1, HT.out]; exact HS.out.symm)), box_below HH.out.2⟩
theorem rshow_any : ∀ d : Nat, d ≤ 8 → RShowC d := by
  intro d
  induction d with
  | zero =>
    rintro hd ⟨k, t, n, x⟩ a cap w hok hm hI hl
    refine rshow_leaf 0 hd k ?_ t n x a cap w hok hm hI
    rintro rfl
    rw [may_array0] at hm; cases hm
  | succ d ih =>
    rintro hd ⟨k, t, n, x⟩ a cap w hok hm hI hl
    by_cases hk : k = 6
    · subst hk
      unfold wt at hl
      exact rshow_array d hd (ih (by omega)) t n x a cap w hok hm hI (by omega)
    · exact rshow_leaf (d + 1) hd k hk t n x a cap w hok hm hI
set_option maxHeartbeats 1000000 in
theorem rshow_bad (r : Rp) (a : Option Addr) (cap : Nat) (w : World) (hok : Ok r) (hm : may 8 r = false) (hI : IsL (· < w.heap.size) w (Rp.list r) a (Rp.list r).length cap) :
    Calls Tryd.prog 24 #[rv r a (Rp.list r).length cap] w fun e w' => e = .returned (.string ⟨#[63]⟩) ∧ Below w.heap.size w w' := by
  have HM := hid_of (rmay_top r a cap (w.alloc (box (Rp.kind r) (Rp.text r) (Rp.num r) a (Rp.list r).length cap)) hok (hI.go fun c hc => ⟨Nat.lt_of_lt_of_le hc (by simp), Lib.alloc_old _ _ _ hc⟩))
  rw [hm] at HM
  unfold rv box at HM
  unfold rv
  clear hI hm
  go_enter Tryd.func24, Tryd.ntmps24
  go_wp2_with (go_at_call 13; refine HM.out.mono ?_; rintro e w1 ⟨rfl, b1⟩)
  go_ret
  exact ⟨rfl, ((Below.refl _ w).alloc (Nat.le_refl _) _).trans (b1.mono (by simp))⟩
theorem rshow_top (r : Rp) (a : Option Addr) (cap : Nat) (w : World) (hok : Ok r) (hI : IsL (· < w.heap.size) w (Rp.list r) a (Rp.list r).length cap) (hw : wt 8 r ≤ 1048576) :
    Calls Tryd.prog 24 #[rv r a (Rp.list r).length cap] w fun e w' => e = .returned (.string ⟨(if may 8 r then shown 8 r else [63]).toArray⟩) ∧ Below w.heap.size w w' := by
  cases hm : may 8 r with
  | true => rw [if_pos rfl]; exact rshow_any 8 (Nat.le_refl _) r a cap w hok hm hI (by omega)
  | false => rw [if_neg (by decide)]; exact rshow_bad r a cap w hok hm hI
end Go.Proofs.YtdggpldmkeoeeaaDoor.RefShowAll
