/- Show: lists, and every reply. -/
import Derived.Test.YtdggpldmkeoeeaaDoorShown
namespace Go.Proofs.YtdggpldmkeoeeaaDoor.ShowAll
open Go.RowKit
open Go.Proofs.YtdggpldmkeoeeaaDoor.TextMath
open Go.Proofs.YtdggpldmkeoeeaaDoor.RepMath
open Go.Proofs.YtdggpldmkeoeeaaDoor.Cut
open Go.Proofs.YtdggpldmkeoeeaaDoor.Rep
open Go.Proofs.YtdggpldmkeoeeaaDoor.RefMay (box)
open Go.Proofs.YtdggpldmkeoeeaaDoor.Print (Tab print_any)
open Go.Proofs.YtdggpldmkeoeeaaDoor.Builder
open Go.Proofs.YtdggpldmkeoeeaaDoor.Show
open Go.Proofs.YtdggpldmkeoeeaaDoor.Shown
set_option linter.unusedVariables false

theorem joined_snoc : ∀ (xs : List (List UInt8)) (x : List UInt8), joined (xs ++ [x]) = if xs.isEmpty then x else joined xs ++ [44, 32] ++ x
  | [], x => rfl
  | [y], x => rfl
  | y :: z :: r, x => by
    have ih := joined_snoc (z :: r) x
    show y ++ [44, 32] ++ joined ((z :: r) ++ [x]) = (y ++ [44, 32] ++ joined (z :: r)) ++ [44, 32] ++ x
    rw [ih]
    show y ++ [44, 32] ++ (joined (z :: r) ++ [44, 32] ++ x) = _
    simp
theorem shown_simple (d : Nat) (k : Int) (hk : k = 1 ∨ k = 2) (t : ByteArray) (n : Int) (l : List Rp) : shown d (.mk k t n l) = if k = 1 then bs t else tErr ++ bs t := by
  rcases hk with rfl | rfl <;> (cases d <;> simp [shown])
theorem shown_int (d : Nat) (t : ByteArray) (n : Int) (l : List Rp) : shown d (.mk 3 t n l) = tInt ++ Go.Lib.itoa n := by cases d <;> simp [shown]
theorem shown_bulk (d : Nat) (t : ByteArray) (n : Int) (l : List Rp) : shown d (.mk 4 t n l) = shQ (bs t) := by cases d <;> simp [shown, shQ]
theorem shown_fix (d : Nat) (k : Int) (hk : k = 5 ∨ k = 7) (t : ByteArray) (n : Int) (l : List Rp) : shown d (.mk k t n l) = if k = 5 then tNil else tNone := by
  rcases hk with rfl | rfl <;> (cases d <;> simp [shown])
theorem shown_array (d : Nat) (t : ByteArray) (n : Int) (l : List Rp) : shown (d + 1) (.mk 6 t n l) = [91] ++ joined (l.map (shown d)) ++ [93] := by simp [shown]

theorem shown_len : ∀ (d : Nat) (r : Rp), Ok r → may d r = true → (shown d r).length + 2 ≤ 8 * wt d r := by
  intro d
  induction d with
  | zero =>
    rintro ⟨k, t, n, l⟩ hok hm
    rcases hok with ⟨_, _, _, _, h1, h2, h3, h4, h5⟩
    have hw := wt_ge 0 k t n l
    by_cases hk : 1 ≤ k ∧ k ≤ 7
    · rcases (show (k = 1 ∨ k = 2) ∨ k = 3 ∨ k = 4 ∨ (k = 5 ∨ k = 7) ∨ k = 6 from by omega) with h | rfl | rfl | h | rfl
      · rw [shown_simple 0 k h]
        split
        · rw [len_bs]; omega
        · rw [List.length_append, len_bs]; show 8 + t.size + 2 ≤ _; omega
      · rw [shown_int, List.length_append]
        have := itoa_len h2
        show 10 + _ + 2 ≤ _; omega
      · rw [shown_bulk]
        have := quoted_len (bs t)
        rw [len_bs] at this
        unfold shQ
        rw [List.length_append, List.length_append]
        show 1 + _ + 1 + 2 ≤ _; omega
      · rw [shown_fix 0 k h]
        split
        · show 5 + 2 ≤ _; omega
        · show 6 + 2 ≤ _; omega
      · rw [may_array0] at hm; cases hm
    · rw [may_other _ _ _ _ _ hk] at hm; cases hm
  | succ d ih =>
    rintro ⟨k, t, n, l⟩ hok hm
    rcases hok with ⟨_, _, _, _, h1, h2, h3, h4, h5⟩
    have hw := wt_ge (d + 1) k t n l
    by_cases hk : 1 ≤ k ∧ k ≤ 7
    · rcases (show (k = 1 ∨ k = 2) ∨ k = 3 ∨ k = 4 ∨ (k = 5 ∨ k = 7) ∨ k = 6 from by omega) with h | rfl | rfl | h | rfl
      · rw [shown_simple _ k h]
        split
        · rw [len_bs]; omega
        · rw [List.length_append, len_bs]; show 8 + t.size + 2 ≤ _; omega
      · rw [shown_int, List.length_append]
        have := itoa_len h2
        show 10 + _ + 2 ≤ _; omega
      · rw [shown_bulk]
        have := quoted_len (bs t)
        rw [len_bs] at this
        unfold shQ
        rw [List.length_append, List.length_append]
        show 1 + _ + 1 + 2 ≤ _; omega
      · rw [shown_fix _ k h]
        split
        · show 5 + 2 ≤ _; omega
        · show 6 + 2 ≤ _; omega
      · rw [may_array, Bool.and_eq_true, List.all_eq_true] at hm
        have key : ∀ m : List Rp, (∀ x, x ∈ m → x ∈ l) → (joined (m.map (shown d))).length ≤ 8 * (m.map (wt d)).sum := by
          intro m
          induction m with
          | nil => intro _; exact Nat.le_refl _
          | cons x m im =>
            intro hx
            have i1 := im (fun y hy => hx y (List.mem_cons_of_mem _ hy))
            have i2 := ih x (h5 x (hx x List.mem_cons_self)) (hm.2 x (hx x List.mem_cons_self))
            rw [List.map_cons, List.map_cons, List.sum_cons]
            cases m with
            | nil => show (shown d x).length ≤ _; omega
            | cons y m =>
              show (shown d x ++ [44, 32] ++ joined ((y :: m).map (shown d))).length ≤ _
              rw [List.length_append, List.length_append]
              show _ + 2 + _ ≤ _
              omega
        have := key l (fun _ h => h)
        rw [shown_array, List.length_append, List.length_append]
        unfold wt
        show 1 + _ + 1 + 2 ≤ _
        omega
    · rw [may_other _ _ _ _ _ hk] at hm; cases hm
theorem sum_take (f : Rp → Nat) : ∀ (l : List Rp) (k : Nat), ((l.take k).map f).sum ≤ (l.map f).sum
  | [], k => by simp
  | x :: l, 0 => by simp
  | x :: l, k + 1 => by
    rw [List.take_succ_cons, List.map_cons, List.map_cons, List.sum_cons, List.sum_cons]
    have := sum_take f l k
    omega
theorem joined_len (d : Nat) (l : List Rp) (hok : ∀ x, x ∈ l → Ok x) (hm : ∀ x, x ∈ l → may d x = true) : (joined (l.map (shown d))).length ≤ 8 * (l.map (wt d)).sum := by
  induction l with
  | nil => exact Nat.le_refl _
  | cons x m im =>
    have i1 := im (fun y hy => hok y (List.mem_cons_of_mem _ hy)) (fun y hy => hm y (List.mem_cons_of_mem _ hy))
    have i2 := shown_len d x (hok x List.mem_cons_self) (hm x List.mem_cons_self)
    rw [List.map_cons, List.map_cons, List.sum_cons]
    cases m with
    | nil => show (shown d x).length ≤ _; omega
    | cons y m =>
      show (shown d x ++ [44, 32] ++ joined ((y :: m).map (shown d))).length ≤ _
      rw [List.length_append, List.length_append]
      show _ + 2 + _ ≤ _
      omega
theorem sum_take_at (f : Rp → Nat) (l : List Rp) (k : Nat) (h : k < l.length) : ((l.take k).map f).sum + f l[k] ≤ (l.map f).sum := by
  have := sum_take f l (k + 1)
  rw [List.take_succ_eq_append_getElem h, List.map_append, List.sum_append] at this
  simpa using this

/- what showList has written behind k elements -/
def upTo (d : Nat) (l : List Rp) (k : Nat) : List UInt8 := joined ((l.take k).map (shown d))
theorem upTo_next (d : Nat) (l : List Rp) (k : Nat) (h : k < l.length) : upTo d l (k + 1) = if k = 0 then shown d l[k] else upTo d l k ++ [44, 32] ++ shown d l[k] := by
  unfold upTo
  rw [List.take_succ_eq_append_getElem h, List.map_append]
  show joined (_ ++ [shown d l[k]]) = _
  rw [joined_snoc]
  by_cases hk : k = 0
  · subst hk; rfl
  · rw [if_neg hk, if_neg]
    intro he
    have : ((l.take k).map (shown d)).length = 0 := by rw [List.isEmpty_iff] at he; rw [he]; rfl
    rw [List.length_map, List.length_take] at this
    omega

set_option maxRecDepth 100000 in
set_option maxHeartbeats 2000000 in
theorem list_any (d : Nat) (ih : ShowC d) (x : List Rp) (a : Option Addr) (cap : Nat) (B b : Nat) (l : List UInt8) (w : World) (hx : x.length ≤ 1048576) (hok : ∀ r, r ∈ x → Ok r) (hm : ∀ r, r ∈ x → may d r = true) (hB : 6 ≤ B)
    (hI : IsL (· < B) w x a x.length cap) (h : IsB B b l w) (hT : Tab w) (hl : l.length + 8 * (x.map (wt d)).sum + 10 ≤ 10000000) :
    Calls Tryd.prog 46 #[.pointer (some ⟨b, 0, none⟩), .slice a x.length cap] w fun e w' => e = .returned (.tuple #[]) ∧ IsB B b (l ++ ([91] ++ joined (x.map (shown d)) ++ [93])) w' ∧ Kp B b w w' := by
  have H := hid_of h
  have HI := hid_of hI
  have HT := hid_of hT
  have HO := hid_of hok
  have HM := hid_of hm
  have HC := hid_of ih
  have HL := hid_of hl
  obtain ⟨R, hR⟩ : ∃ R, R = l ++ ([91] ++ joined (x.map (shown d)) ++ [93]) := ⟨_, rfl⟩
  have HR := hid_of hR
  rw [← hR]
  clear hI h hT hok hm ih hR hl
  go_enter Tryd.func46, Tryd.ntmps46
  go_wp2_with fail
  refine (byte_any B b _ 91 _ H.out (by have := HL.out; omega)).mono ?_
  rintro e w1 ⟨rfl, h1, b1⟩
  have H1 := hid_of h1
  have B1 := hid_of b1
  clear h1 b1
  go_wp2_with fail
  go_loopg [10] x.length (fun g s10 wx => ∃ k : Nat, k ≤ x.length ∧ x.length ≤ k + g ∧ s10 = .int .i64 k ∧ Hid (IsB B b (l ++ [91] ++ upTo d x k) wx ∧ Kp B b w wx))
  case atStart => exact ⟨0, by omega, by omega, rfl, by unfold upTo; rw [List.take_zero]; exact (List.append_nil (l ++ [91])).symm ▸ H1.out, B1.out⟩
  case round =>
    obtain ⟨k, hk, hg, rfl, HH⟩ := hrel
    have HU : Hid ((l ++ [91] ++ upTo d x k).length + 8 * ((x.map (wt d)).sum - ((x.take k).map (wt d)).sum) + 9 ≤ 10000000) := by
      show _ ≤ _
      have j := joined_len d (x.take k) (fun r hr => HO.out r (List.mem_of_mem_take hr)) (fun r hr => HM.out r (List.mem_of_mem_take hr))
      have s := sum_take (wt d) x k
      have := HL.out
      unfold upTo
      rw [List.length_append, List.length_append]
      show l.length + 1 + _ + _ + 9 ≤ _
      omega
    by_cases hlt : k < x.length
    · obtain ⟨g', rfl⟩ : ∃ g', gk = g' + 1 := ⟨gk - 1, by omega⟩
      obtain ⟨bl, o, ea, el, ec, rfl, hb, c0, c1, c2, c3, hx2⟩ := (HI.out.stays HH.out.2.1).at k hlt
      obtain rfl := hx2.len
      have HX := hid_of hx2
      have HN := hid_of (upTo_next d x k hlt)
      have HA := hid_of (sum_take_at (wt d) x k hlt)
      have Hlt := hid_of (isB_lt HH.out.1)
      clear hx2 hb
      by_cases h0 : k = 0
      · have HZ := hid_of h0
        have hnp : ¬ 0 < k := by omega
        rw [if_pos h0] at HN
        clear h0
        go_wp2_with fail
        refine (HC.out x[k] ea ec B b _ _ (HO.out _ (List.getElem_mem hlt)) (HM.out _ (List.getElem_mem hlt)) hB (HX.out.go fun c hc => ⟨hc, Lib.alloc_old _ _ _ (Nat.lt_of_lt_of_le hc HH.out.1.2)⟩) (alloc_isB HH.out.1 _) (tab_stays HT.out (HH.out.2.trans (kp_alloc HH.out.1.2 _)).1 hB) (by have := HU.out; have := HA.out; omega)).mono ?_
        rintro e w2 ⟨rfl, h2, b2⟩
        have H2 := hid_of h2
        have B2 := hid_of ((HH.out.2.trans (kp_alloc HH.out.1.2 _)).trans b2)
        clear h2 b2
        go_wp2_with fail
        go_roundg g'
        case measure => omega
        case rel =>
          refine ⟨k + 1, hlt, by omega, rfl, ?_, B2.out⟩
          rw [HN.out]
          have e0 : upTo d x k = [] := by rw [HZ.out]; rfl
          have h3 := H2.out
          rw [e0, List.append_nil] at h3
          exact h3
      · have hpos : 0 < k := by omega
        rw [if_neg h0] at HN
        clear h0
        go_wp2_with fail
        refine (str_any B b _ _ _ (alloc_isB HH.out.1 _) (by have := HU.out; omega) (by decide)).mono ?_
        rintro e w2 ⟨rfl, h2, b2⟩
        have H2 := hid_of h2
        have B2 := hid_of ((kp_alloc HH.out.1.2 _).trans b2)
        obtain ⟨e0, e1, e2, e3⟩ := box_k Hlt.out b2
        clear h2 b2
        go_wp2_with fail
        refine (HC.out x[k] ea ec B b _ _ (HO.out _ (List.getElem_mem hlt)) (HM.out _ (List.getElem_mem hlt)) hB (HX.out.stays B2.out.1) H2.out (tab_stays HT.out (HH.out.2.trans B2.out).1 hB) (by
          have := HU.out; have := HA.out
          have e := ap_len (l ++ [91] ++ upTo d x k) ⟨#[44, 32]⟩ ((l ++ [91] ++ upTo d x k).length + 2) (Nat.le_refl _)
          omega)).mono ?_
        rintro e w3 ⟨rfl, h3, b3⟩
        have H3 := hid_of h3
        have B3 := hid_of ((HH.out.2.trans B2.out).trans b3)
        clear h3 b3
        go_wp2_with fail
        go_roundg g'
        case measure => omega
        case rel =>
          refine ⟨k + 1, hlt, by omega, rfl, ?_, B3.out⟩
          rw [HN.out, ← List.append_assoc, ← List.append_assoc]
          exact H3.out
    · go_wp2_with (go_at_call 47; refine (byte_any B b _ 93 _ HH.out.1 (by have := HU.out; omega)).mono ?_; rintro e w2 ⟨rfl, h2, b2⟩)
      go_end0
      refine ⟨rfl, ?_, HH.out.2.trans b2⟩
      rw [HR.out]
      unfold upTo at h2
      rw [List.take_of_length_le (by omega)] at h2
      rw [← List.append_assoc, ← List.append_assoc]
      exact h2
set_option maxRecDepth 100000 in
set_option maxHeartbeats 1000000 in
theorem show_array (d : Nat) (ih : ShowC d) (t : ByteArray) (n : Int) (x : List Rp) (a : Option Addr) (cap : Nat) (B b : Nat) (l : List UInt8) (w : World) (hx : x.length ≤ 1048576) (hok : ∀ r, r ∈ x → Ok r) (hm : ∀ r, r ∈ x → may d r = true) (hB : 6 ≤ B)
    (hI : IsL (· < B) w x a x.length cap) (h : IsB B b l w) (hT : Tab w) (hl : l.length + 8 * (x.map (wt d)).sum + 10 ≤ 10000000) :
    Calls Tryd.prog 32 #[.pointer (some ⟨b, 0, none⟩), .agg #[.int .i64 6, .string t, .int .i64 n, .slice a x.length cap]] w fun e w' => e = .returned (.tuple #[]) ∧ IsB B b (l ++ ([91] ++ joined (x.map (shown d)) ++ [93])) w' ∧ Kp B b w w' := by
  have HC := hid_of (list_any d ih x a cap B b l (w.alloc (.cells #[.int .i64 6, .string t, .int .i64 n, .slice a x.length cap] 24)) hx hok hm hB (hI.go fun c hc => ⟨hc, Lib.alloc_old _ _ _ (Nat.lt_of_lt_of_le hc h.2)⟩) (alloc_isB h _) (tab_stays hT (kp_alloc (b := b) h.2 _).1 hB) hl)
  have HB := hid_of h.2
  generalize [91] ++ joined (x.map (shown d)) ++ [93] = R at HC ⊢
  clear hI h hT hok hm ih
  go_enter Tryd.func32, Tryd.ntmps32
  go_wp2_with (go_at_call 46; refine HC.out.mono ?_; rintro e w1 ⟨rfl, h1, b1⟩)
  go_end0
  exact ⟨rfl, h1, (kp_alloc HB.out _).trans b1⟩
theorem show_leaf (d : Nat) (k : Int) (hk : k ≠ 6) (t : ByteArray) (n : Int) (x : List Rp) (a : Option Addr) (cap : Nat) (B b : Nat) (l : List UInt8) (w : World) (hok : Ok (.mk k t n x)) (hm : may d (.mk k t n x) = true) (hB : 6 ≤ B)
    (h : IsB B b l w) (hT : Tab w) (hl : l.length ≤ 10000000) :
    Calls Tryd.prog 32 #[.pointer (some ⟨b, 0, none⟩), .agg #[.int .i64 k, .string t, .int .i64 n, .slice a x.length cap]] w fun e w' => e = .returned (.tuple #[]) ∧ IsB B b (l ++ shown d (.mk k t n x)) w' ∧ Kp B b w w' := by
  rcases hok with ⟨_, _, _, _, h1, h2, h3, h4, h5⟩
  by_cases hk2 : 1 ≤ k ∧ k ≤ 7
  · rcases (show (k = 1 ∨ k = 2) ∨ k = 3 ∨ k = 4 ∨ (k = 5 ∨ k = 7) from by omega) with e | rfl | rfl | e
    · rw [shown_simple d k e]
      exact show_simple k e t n a _ cap B b l w h hl h3
    · rw [shown_int]
      exact show_int t n a _ cap B b l w h hl h2 hT hB
    · rw [shown_bulk]
      exact show_bulk t n a _ cap B b l w h hl h3
    · rw [shown_fix d k e]
      exact show_fix k e t n a _ cap B b l w h hl
  · rw [may_other _ _ _ _ _ hk2] at hm; cases hm
theorem show_any : ∀ d : Nat, ShowC d := by
  intro d
  induction d with
  | zero =>
    rintro ⟨k, t, n, x⟩ a cap B b l w hok hm hB hI h hT hl
    refine show_leaf 0 k ?_ t n x a cap B b l w hok hm hB h hT (by omega)
    rintro rfl
    rw [may_array0] at hm; cases hm
  | succ d ih =>
    rintro ⟨k, t, n, x⟩ a cap B b l w hok hm hB hI h hT hl
    by_cases hk : k = 6
    · subst hk
      rcases hok with ⟨_, _, _, _, h1, h2, h3, h4, h5⟩
      rw [may_array, Bool.and_eq_true, List.all_eq_true] at hm
      rw [shown_array]
      unfold wt at hl
      exact show_array d ih t n x a cap B b l w h4 h5 hm.2 hB hI h hT (by omega)
    · exact show_leaf (d + 1) k hk t n x a cap B b l w hok hm hB h hT (by omega)

set_option maxHeartbeats 1000000 in
theorem may_top (r : Rp) (a : Option Addr) (cap : Nat) (w : World) (hok : Ok r) (hI : IsL (· < w.heap.size) w (Rp.list r) a (Rp.list r).length cap) :
    Calls Tryd.prog 12 #[rv r a (Rp.list r).length cap] w fun e w' => e = .returned (.bool (may 8 r)) ∧ Below w.heap.size w w' := by
  have HC := hid_of (may_any 8 (Nat.le_refl _) r a cap (w.alloc (box (Rp.kind r) (Rp.text r) (Rp.num r) a (Rp.list r).length cap)) hok (hI.go fun c hc => ⟨Nat.lt_of_lt_of_le hc (by simp), Lib.alloc_old _ _ _ hc⟩))
  unfold rv box at HC
  unfold rv
  clear hI
  go_enter Tryd.func12, Tryd.ntmps12
  go_wp2_with (go_at_call 28; refine HC.out.mono ?_; rintro e w1 ⟨rfl, b1⟩)
  go_ret
  exact ⟨rfl, ((Below.refl _ w).alloc (Nat.le_refl _) _).trans (b1.mono (by simp))⟩
theorem fresh_isB (w : World) : IsB w.heap.size w.heap.size [] (w.alloc (.cells #[.pointer none, .slice none 0 0] 59)) := ⟨Lib.fresh_isBuilder 59 5 w, by simp⟩
theorem pos_of {w : World} (h : Tab w) : 1 < w.heap.size := by
  unfold Tab Lib.TabIs World.var? at h
  rw [gPow] at h
  simp only [Option.bind_some] at h
  rcases Nat.lt_or_ge 1 w.heap.size with q | q
  · exact q
  · rw [Array.getElem?_eq_none q] at h; simp at h
set_option maxRecDepth 100000 in
set_option maxHeartbeats 2000000 in
theorem show_top (r : Rp) (a : Option Addr) (cap : Nat) (w : World) (hok : Ok r) (hI : IsL (· < w.heap.size) w (Rp.list r) a (Rp.list r).length cap) (hT : Tab w) (h6 : 6 ≤ w.heap.size) (hw : wt 8 r ≤ 1048576) :
    Calls Tryd.prog 23 #[rv r a (Rp.list r).length cap] w fun e w' => e = .returned (.string ⟨(if may 8 r then shown 8 r else [63]).toArray⟩) ∧ Below w.heap.size w w' := by
  have HI := hid_of hI
  have HO := hid_of hok
  have HT := hid_of hT
  have H1 := hid_of (may_top r a cap (w.alloc (box (Rp.kind r) (Rp.text r) (Rp.num r) a (Rp.list r).length cap)) hok (hI.go fun c hc => ⟨Nat.lt_of_lt_of_le hc (by simp), Lib.alloc_old _ _ _ hc⟩))
  unfold rv box at H1
  unfold rv
  clear hI hok hT
  cases hm : may 8 r with
  | false =>
    rw [hm] at H1
    rw [if_neg (by decide)]
    clear hm
    go_enter Tryd.func23, Tryd.ntmps23
    go_wp2_with (go_at_call 12; refine H1.out.mono ?_; rintro e w1 ⟨rfl, b1⟩)
    go_ret
    exact ⟨rfl, ((Below.refl _ w).alloc (Nat.le_refl _) _).trans (b1.mono (by simp))⟩
  | true =>
    have HM := hid_of hm
    rw [hm] at H1
    rw [if_pos rfl]
    clear hm
    go_enter Tryd.func23, Tryd.ntmps23
    go_wp2_with fail
    refine H1.out.mono ?_
    rintro e w1 ⟨rfl, b1⟩
    have hbx : w1.heap[w.heap.size]? = some (box (Rp.kind r) (Rp.text r) (Rp.num r) a (Rp.list r).length cap) := (b1.block _ (by simp)).trans (heap_alloc_new w _)
    have hbx2 : (w1.alloc (.cells #[.pointer none, .slice none 0 0] 59)).heap[w.heap.size]? = some (box (Rp.kind r) (Rp.text r) (Rp.num r) a (Rp.list r).length cap) :=
      (Lib.alloc_old _ _ _ (Array.getElem?_eq_some_iff.1 hbx).1).trans hbx
    unfold box at hbx2
    have c0 : (w1.alloc (.cells #[.pointer none, .slice none 0 0] 59)).cell? ⟨w.heap.size, 0, none⟩ = some (.int .i64 (Rp.kind r)) := by rw [Lib.cell_of_heap hbx2]; rfl
    have c1 : (w1.alloc (.cells #[.pointer none, .slice none 0 0] 59)).cell? ⟨w.heap.size, 1, none⟩ = some (.string (Rp.text r)) := by rw [Lib.cell_of_heap hbx2]; rfl
    have c2 : (w1.alloc (.cells #[.pointer none, .slice none 0 0] 59)).cell? ⟨w.heap.size, 2, none⟩ = some (.int .i64 (Rp.num r)) := by rw [Lib.cell_of_heap hbx2]; rfl
    have c3 : (w1.alloc (.cells #[.pointer none, .slice none 0 0] 59)).cell? ⟨w.heap.size, 3, none⟩ = some (.slice a (Rp.list r).length cap) := by rw [Lib.cell_of_heap hbx2]; rfl
    have BW : Hid (Below w.heap.size w w1) := ((Below.refl _ w).alloc (Nat.le_refl _) _).trans (b1.mono (by simp))
    have S1 := hid_of b1.size
    clear b1 hbx hbx2
    go_wp2_with fail
    refine (show_any 8 r a cap w1.heap.size w1.heap.size [] _ HO.out HM.out (by have := BW.out.size; omega) (HI.out.go fun c hc => ⟨Nat.lt_of_lt_of_le hc BW.out.size, (Lib.alloc_old _ _ _ (Nat.lt_of_lt_of_le hc BW.out.size)).trans (BW.out.block c hc)⟩) (fresh_isB w1) (tab_stays HT.out (BW.out.trans ((Below.refl _ w1).alloc BW.out.size _)) h6) (by show 0 + _ ≤ _; omega)).mono ?_
    rintro e w2 ⟨rfl, h2, b2⟩
    have H2 := hid_of h2
    have B2 : Hid (Below w.heap.size w w2) := (BW.out.alloc BW.out.size _).trans (b2.1.mono BW.out.size)
    have S2 := hid_of BW.out.size
    clear h2 b2
    go_wp2_with fail
    refine (Tryd.Builder_String_any _ _ _ _ H2.out.1 H2.out.2).mono ?_
    rintro e w3 ⟨rfl, b3⟩
    go_wp2_with fail
    go_ret
    exact ⟨rfl, B2.out.trans (b3.mono S2.out)⟩
end Go.Proofs.YtdggpldmkeoeeaaDoor.ShowAll
