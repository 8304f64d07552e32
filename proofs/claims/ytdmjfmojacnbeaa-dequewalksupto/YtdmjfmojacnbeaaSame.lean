/- Same, Joined, Turned. -/
import Derived.Test.YtdmjfmojacnbeaaApp
import Derived.Test.YtdmjfmojacnbeaaFree
namespace Go.Proofs.Ytdmjfmojacnbeaa.Same
open Go.RowKit
open Go.Proofs.Ytdmjfmojacnbeaa.Base
open Go.Proofs.Ytdmjfmojacnbeaa.Held
open Go.Proofs.Ytdmjfmojacnbeaa.Lay
open Go.Proofs.Ytdmjfmojacnbeaa.Free
open Go.Proofs.Ytdmjfmojacnbeaa.App
set_option linter.unusedVariables false
set_option linter.unusedSimpArgs false
theorem Rd.get {G : Nat → Prop} {w : World} {a : Option Addr} {l : List El} (h : Rd G w a l) (hl : 0 < l.length) : ∃ g o, a = some ⟨g, o, none⟩ ∧ G g ∧ ∀ j x, l[j]? = some x → w.cell? ⟨g, o + j, none⟩ = some (V x) := by
  rcases h with e | q
  · rw [e] at hl; simp at hl
  · exact q
set_option maxHeartbeats 1000000 in
set_option maxRecDepth 100000 in
theorem same_call {G G' : Nat → Prop} {w : World} {u v : Value} {l l' : List El} (h : SL G w u l) (h' : SL G' w v l') (e : l = l') (hl : l.length ≤ 35184372088832) :
    Calls Try.prog 13 #[u, v] w fun e w' => e = .returned (.bool true) ∧ ∃ m, w' = w.drewN m := by
  subst e
  obtain ⟨a, c, rfl, hc, hr⟩ := h
  obtain ⟨a', c', rfl, hc', hr'⟩ := h'
  have H1 := hid_of hr
  have H2 := hid_of hr'
  obtain ⟨L, HL⟩ : ∃ L, Hid (L = l.length) := ⟨_, hid_of rfl⟩
  rw [← HL.out] at hl ⊢
  clear hr hr' hc hc'
  go_enter Try.func13, Try.ntmps13
  go_wp2_with fail
  go_loopg [5] L (fun g s5 wx => ∃ i : Nat, i ≤ L ∧ L ≤ i + g ∧ s5 = .int .i64 (i : Int) ∧ Hid (∃ m, wx = w.drewN m))
  case atStart => exact ⟨0, by omega, by omega, rfl, 0, rfl⟩
  case round =>
    obtain ⟨i, hi, hg, rfl, R⟩ := hrel
    by_cases hlt : i < L
    · obtain ⟨g', rfl⟩ : ∃ g', gk = g' + 1 := ⟨gk - 1, by omega⟩
      have hil : i < l.length := by rw [← HL.out]; exact hlt
      obtain ⟨g1, o1, rfl, _, q1⟩ := Rd.get H1.out (by omega)
      obtain ⟨g2, o2, rfl, _, q2⟩ := Rd.get H2.out (by omega)
      have c1 : wr.cell? ⟨g1, o1 + i, none⟩ = some (V l[i]) := by obtain ⟨m, rfl⟩ := R.out; exact q1 i _ (List.getElem?_eq_getElem hil)
      have c2 : wr.cell? ⟨g2, o2 + i, none⟩ = some (V l[i]) := by obtain ⟨m, rfl⟩ := R.out; exact q2 i _ (List.getElem?_eq_getElem hil)
      generalize l[i] = x at *
      clear q1 q2
      go_wp2_with fail
      go_quiet (fail)
      go_wp2_with fail
      go_roundg g'
      case measure => omega
      case rel => exact ⟨i + 1, by omega, by omega, by simp, by obtain ⟨m, e⟩ := R.out; exact ⟨m + nq, by rw [e, World.drewN_drewN]⟩⟩
    · go_wp2_with fail
      go_ret
      exact ⟨rfl, R.out⟩
set_option maxRecDepth 100000 in
theorem joined_call {G G' : Nat → Prop} {w : World} {u v : Value} {l m : List El} (h : SL G w u l) (h' : SL G' w v m) (hb : (l.length + m.length) * 8 ≤ 140737488355328) :
    Calls Try.prog 20 #[u, v] w fun e w' => ∃ r, e = .returned r ∧ NR w.heap.size w' r (l ++ m) ∧ Below w.heap.size w w' := by
  obtain ⟨a, c, rfl, hc, hr⟩ := h
  obtain ⟨a', c', rfl, hc', hr'⟩ := h'
  obtain ⟨v1, w1, hrun1, n1, b1⟩ := app_nil (c := c) hr (by omega) 22
  obtain ⟨v2, w2, hrun2, n2, b2⟩ := app_any (c := c') n1 (hr'.keep (w' := w1) fun k hk _ => b1.block k hk) hb b1.size 22
  have H := hid_of (And.intro n2 (b1.trans b2))
  clear n1 n2 b1 b2 hr hr' hb
  go_enter Try.func20, Try.ntmps20
  go_wp2_with (first | (at_builtin; refine wpl_eq rfl _ _ 22 22 rfl (.slice none 0 0) (.slice a l.length c) v1 _ w1 rfl rfl hrun1 ?_; clear hrun1) | (at_builtin; refine wpl_eq rfl _ _ 22 22 rfl v1 (.slice a' m.length c') v2 _ w2 rfl rfl hrun2 ?_))
  go_ret
  exact ⟨v2, rfl, H.out⟩
set_option maxHeartbeats 1000000 in
set_option maxRecDepth 100000 in
theorem turned_call {G : Nat → Prop} {w : World} {u : Value} {l : List El} (h : SL G w u l) (hb : l.length * 8 ≤ 140737488355328) :
    Calls Try.prog 24 #[u] w fun e w' => ∃ r, e = .returned r ∧ NR w.heap.size w' r l.reverse ∧ Below w.heap.size w w' := by
  obtain ⟨a, c, rfl, hc, hr⟩ := h
  have H1 := hid_of hr
  obtain ⟨L, HL⟩ : ∃ L, Hid (L = l.length) := ⟨_, hid_of rfl⟩
  rw [← HL.out] at hb ⊢
  clear hr hc
  go_enter Try.func24, Try.ntmps24
  go_wp2_with fail
  go_loopg [3, 4] L (fun g s3 s4 wx => ∃ (i : Nat) (ra : Option Addr) (rn rc : Nat), i ≤ L ∧ L ≤ i + g ∧ s3 = .slice ra rn rc ∧ s4 = .int .i64 ((L : Int) - 1 - i) ∧ Hid (NR w.heap.size wx (.slice ra rn rc) (l.drop (L - i)).reverse ∧ Below w.heap.size w wx))
  case atStart => exact ⟨0, none, 0, 0, by omega, by omega, rfl, by simp, ⟨.inl ⟨rfl, by rw [HL.out]; simp⟩, Below.refl _ _⟩⟩
  case round =>
    obtain ⟨i, ra, rn, rc, hi, hg, rfl, rfl, R⟩ := hrel
    by_cases hlt : i < L
    · obtain ⟨g', rfl⟩ : ∃ g', gk = g' + 1 := ⟨gk - 1, by omega⟩
      obtain ⟨j, hj⟩ : ∃ j, L = j + 1 + i := ⟨L - 1 - i, by omega⟩
      have hjl : j < l.length := by rw [← HL.out]; omega
      have jI : (L : Int) - 1 - (i : Int) = (j : Int) := by omega
      rw [jI]
      obtain ⟨nr, bl⟩ := R.out
      obtain ⟨g1, o1, rfl, _, q1⟩ := Rd.get (H1.out.keep (w' := wr) fun k hk _ => bl.block k hk) (by omega)
      have c1 : wr.cell? ⟨g1, o1 + j, none⟩ = some (V l[j]) := q1 j _ (List.getElem?_eq_getElem hjl)
      have hrl : ((l.drop (L - i)).reverse).length = i := by rw [List.length_reverse, List.length_drop, ← HL.out]; omega
      obtain ⟨v2, w2, hrun, n2, b2⟩ := app_one l[j] nr (by rw [hrl]; omega) bl.size 22
      obtain ⟨a2, c2, rfl, hc2⟩ : ∃ a2 c2, v2 = .slice a2 (i + 1) c2 ∧ i + 1 ≤ c2 := by
        obtain ⟨a2, c2, e, h2, _⟩ := NR.shape n2
        rw [List.length_append, hrl] at e h2
        exact ⟨a2, c2, e, h2⟩
      have K := hid_of (show NR w.heap.size w2 (.slice a2 (i + 1) c2) (l.drop (L - (i + 1))).reverse ∧ Below w.heap.size w w2 from ⟨by
        rw [show L - (i + 1) = j by omega, List.drop_eq_getElem_cons hjl, List.reverse_cons, show j + 1 = L - i by omega]
        exact n2, bl.trans b2⟩)
      have d1 : (0 : Int) ≤ (j : Int) := by omega
      have d2 : j < L := by omega
      have HJ := hid_of hj
      generalize l[j] = x at *
      clear R nr bl n2 b2 q1 hj jI
      go_wp2_with (at_builtin; refine wpl_eq rfl _ _ 22 22 rfl (.slice ra rn rc) (.slice (some ⟨wr.heap.size, 0, none⟩) 1 1) (.slice a2 (i + 1) c2) _ w2 rfl rfl hrun ?_)
      go_roundg g'
      case measure => omega
      case rel => exact ⟨i + 1, a2, i + 1, c2, by omega, by omega, rfl, by have := HJ.out; congr 1; omega, K⟩
    · have d1 : ¬ (0 : Int) ≤ (L : Int) - 1 - i := by omega
      have R2 := hid_of R.out
      have hi2 : L - i = 0 := by omega
      clear R
      go_wp2_with fail
      go_ret
      obtain ⟨r1, r2⟩ := R2.out
      rw [hi2, List.drop_zero] at r1
      exact ⟨_, rfl, r1, r2⟩
theorem sl_new (w : World) (l : List El) : SL (fun k => w.heap.size ≤ k) (w.alloc (.cells (cells l) 3)) (.slice (some ⟨w.heap.size, 0, none⟩) l.length l.length) l := by
  refine ⟨_, _, rfl, Nat.le_refl _, .inr ⟨w.heap.size, 0, rfl, Nat.le_refl _, fun j x hj => ?_⟩⟩
  rw [Lib.cell_of_heap (heap_alloc_new w _), cells_get, Nat.zero_add, hj]
  rfl
end Go.Proofs.Ytdmjfmojacnbeaa.Same
