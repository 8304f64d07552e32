/- The law's do at 0 and 3. -/
import Derived.Test.YtdmjfmojacnbeaaEoC
namespace Go.Proofs.Ytdmjfmojacnbeaa.EoD
open Go.RowKit
open Go.Proofs.Ytdmjfmojacnbeaa.Base
open Go.Proofs.Ytdmjfmojacnbeaa.Held
open Go.Proofs.Ytdmjfmojacnbeaa.Lay
open Go.Proofs.Ytdmjfmojacnbeaa.Free
open Go.Proofs.Ytdmjfmojacnbeaa.Keep
open Go.Proofs.Ytdmjfmojacnbeaa.Pop
open Go.Proofs.Ytdmjfmojacnbeaa.Place
open Go.Proofs.Ytdmjfmojacnbeaa.Piece
open Go.Proofs.Ytdmjfmojacnbeaa.App
open Go.Proofs.Ytdmjfmojacnbeaa.FindMath
open Go.Proofs.Ytdmjfmojacnbeaa.Find
open Go.Proofs.Ytdmjfmojacnbeaa.FindA
open Go.Proofs.Ytdmjfmojacnbeaa.DropC
open Go.Proofs.Ytdmjfmojacnbeaa.Remove
open Go.Proofs.Ytdmjfmojacnbeaa.Insert
open Go.Proofs.Ytdmjfmojacnbeaa.Same
open Go.Proofs.Ytdmjfmojacnbeaa.Awake
open Go.Proofs.Ytdmjfmojacnbeaa.Ends
open Go.Proofs.Ytdmjfmojacnbeaa.Ref
open Go.Proofs.Ytdmjfmojacnbeaa.RefB
open Go.Proofs.Ytdmjfmojacnbeaa.RefC
open Go.Proofs.Ytdmjfmojacnbeaa.EoA
open Go.Proofs.Ytdmjfmojacnbeaa.EoB
open Go.Proofs.Ytdmjfmojacnbeaa.Push
open Go.Proofs.Ytdmjfmojacnbeaa.Front
set_option linter.unusedVariables false
set_option linter.unusedSimpArgs false
set_option maxHeartbeats 4000000 in
set_option maxRecDepth 100000 in
theorem do_0 {F : Nat → Prop} {B : Cx} {b : Nat} {l m : List El} {u : Value} {la : Option Addr} {lc : Nat} {w0 w : World} (h : Sx F B b l u w0 w) (hm : SL B.Lo w (.slice la m.length lc) m) (A Bq C : Int) (bf : Bool) (hA : In A) (hBq : In Bq) (hb : 3 * (l.length + m.length) ≤ 4194304) :
    Calls Try.prog 11 #[ptr b, u, .agg (box 0 A Bq C (.slice la m.length lc) bf)] w (DoE B b (doS l ⟨0, m, A, Bq, C, bf⟩) w0) := by
  obtain ⟨v1, w1, g, gc, w2, hrun1, hrun2, hgv, hg, hbx, k2⟩ := given_run 0 A Bq C bf hm (by omega)
  have E2 := hid_of (h.read k2)
  have c0 : w2.cell? ⟨w.heap.size, 0, none⟩ = some (.int .i64 0) := Lib.cell_of_heap hbx 0
  have c2 : w2.cell? ⟨w.heap.size, 2, none⟩ = some (.int .i64 A) := Lib.cell_of_heap hbx 2
  have c3 : w2.cell? ⟨w.heap.size, 3, none⟩ = some (.int .i64 Bq) := Lib.cell_of_heap hbx 3
  have c5 : w2.cell? ⟨w.heap.size, 5, none⟩ = some (.bool bf) := Lib.cell_of_heap hbx 5
  have HBx := hid_of hbx
  have hX : Hid (∀ k, F k → k < w.heap.size) := fun k e => (h.ow k e).2
  have hXw : w.heap.size < w2.heap.size := lt_of hbx
  obtain ⟨u1, u2, u3, rfl⟩ : ∃ u1 u2 u3, u = .slice u1 u2 u3 := by
    obtain ⟨a, c, e, _⟩ := h.sl
    exact ⟨a, _, c, e⟩
  have HA := hid_of hA
  have HBq := hid_of hBq
  have HL := hid_of (show (l.length + 1) * 8 ≤ 140737488355328 ∧ (3 * l.length + 2) * 8 ≤ 281474976710656 ∧ l.length ≤ 35184372088832 by omega)
  have c1 : w2.cell? ⟨w.heap.size, 1, none⟩ = some (.slice la m.length lc) := Lib.cell_of_heap hbx 1
  obtain ⟨xs, hrow, hxl, hgc, hxt⟩ := hgv
  have hgv2 : SL (fun k => k = g) w2 (.slice (some ⟨g, 0, none⟩) m.length gc) m := by
    refine ⟨_, _, rfl, by omega, .inr ⟨g, 0, rfl, rfl, fun j x hj => ?_⟩⟩
    have hjm : j < m.length := (List.getElem?_eq_some_iff.1 hj).1
    have := congrArg (fun q => q[j]?) hxt
    simp only [List.getElem?_take, if_pos (show j < m.length + 1 by omega), List.getElem?_append_left hjm, hj] at this
    rw [hrow.cell, Nat.zero_add, this]; rfl
  have h77 : xs[m.length]? = some (77 : El) := by
    have := congrArg (fun q => q[m.length]?) hxt
    simpa using this
  have hcut := cut_hi (some ⟨g, 0, none⟩) (m.length + 1) gc m.length (m.length : Int) rfl (by omega)
  have nFg : ¬ F g := fun e => by have := (h.ow g e).2; omega
  have nFX : ¬ F w.heap.size := fun e => Nat.lt_irrefl _ (h.ow _ e).2
  have hgX : w.heap.size ≠ g := by omega
  have HU : Hid (SL (fun k => ¬ F k ∧ k < w.heap.size) w2 (.slice u1 u2 u3) l) := by
    obtain ⟨a, c, e, hc, hr⟩ := h.sl
    exact SL.below (w := w) ⟨a, c, e, hc, hr.lt.mono fun k _ e => ⟨e.1.1, e.2⟩⟩ k2
  have HM : Hid (SL B.Lo w2 (.slice la m.length lc) m) := hm.below k2
  have hB : Hid (∀ k, B.Lo k → k < w.heap.size) := h.lo
  have HG := hid_of (And.intro hgv2 (And.intro hrow (And.intro hxl (And.intro hgc h77))))
  have bm : m.length ≤ 1048576 * 4 := by omega
  have HPB := hid_of (show (2 * (l.length + m.length) + l.length) * 8 ≤ 281474976710656 ∧ (l.length + m.length) * 8 ≤ 140737488355328 by omega)
  clear hgv2 hrow hxl hxt h77 hgc
  have HP := hid_of (pushFront_call E2.out.dq (HG.out.1.mono fun k _ e c => nFg (by rw [← e]; exact c)) (by have := HPB.out.1; omega))
  clear h hm hbx k2 hA hBq hb
  go_enter Try.func11, Try.ntmps11
  go_wp2_with (first | (at_builtin; refine wpl_eq rfl _ _ 22 22 rfl (.slice none 0 0) (.slice la m.length lc) v1 _ w1 rfl rfl hrun1 ?_; clear hrun1) | (at_builtin; refine wpl_eq rfl _ _ 22 22 rfl v1 (.slice (some ⟨w1.heap.size, 0, none⟩) 1 1) (.slice (some ⟨g, 0, none⟩) (m.length + 1) gc) _ w2 rfl rfl hrun2 ?_; clear hrun2))
  refine HP.out.mono ?_
  rintro e w3 ⟨rfl, q3, f3⟩
  have hgw := HG.out.2.1.lt
  have r3 : RowIs w3 g xs := (f3.block g hgw nFg).trans HG.out.2.1
  have x3 : w3.heap[w.heap.size]? = some (.cells (box 0 A Bq C (.slice la m.length lc) bf) 30 (0, 0)) := (f3.block _ hXw nFX).trans HBx.out
  have sz3 : w2.heap.size ≤ w3.heap.size := f3.size
  have sg3 : SL (fun k => k = g) w3 (.slice (some ⟨g, 0, none⟩) m.length gc) m := HG.out.1.keep fun k hk e => by rw [e]; exact f3.block g hgw nFg
  have sm3 : SL B.Lo w3 (.slice la m.length lc) m := HM.out.keep fun k hk e => f3.block k hk fun c => (E2.out.ow k c).1 e
  have su3 : SL (fun k => ¬ Gr F w2 k) w3 (.slice u1 u2 u3) l := SL.frn E2.out.sl f3
  have HCl := hid_of (fun (W : World) (k : Below w3.heap.size w3 W) => And.intro (show W.cell? ⟨w.heap.size, 1, none⟩ = some (.slice la m.length lc) from Lib.cell_of_heap ((k.block _ (by omega)).trans x3) 1) (show W.cell? ⟨g, m.length, none⟩ = some (.int .i64 77) by rw [RowIs.cell (w := W) ((k.block _ r3.lt).trans r3), HG.out.2.2.2.2]; rfl))
  have HR := hid_of (fun (W : World) (k : Below w3.heap.size w3 W) => (show Calls Try.prog 18 #[.slice u1 u2 u3, .slice la m.length lc] W fun e w' => ∃ r, e = .returned r ∧ Hid (NR w3.heap.size w' r (m.reverse ++ l) ∧ Below w3.heap.size w3 w') ∧ w'.cell? ⟨w.heap.size, 1, none⟩ = some (.slice la m.length lc) ∧ w'.cell? ⟨g, m.length, none⟩ = some (.int .i64 77) from
    (rpush_call (su3.below k) (sm3.below k) HPB.out.2).mono fun e w' ⟨r, h1, h2, h3⟩ => ⟨r, h1, ⟨h2.mono k.size, k.trans (h3.mono k.size)⟩, HCl.out w' (k.trans (h3.mono k.size))⟩))
  have HSm := hid_of (fun (W : World) (k : Below w3.heap.size w3 W) => (show Calls Try.prog 13 #[.slice (some ⟨g, 0, none⟩) m.length gc, .slice la m.length lc] W fun e w' => e = .returned (.bool true) ∧ Hid (∃ j, w' = W.drewN j) ∧ Hid (Below w3.heap.size w3 w') ∧ w'.cell? ⟨w.heap.size, 1, none⟩ = some (.slice la m.length lc) ∧ w'.cell? ⟨g, m.length, none⟩ = some (.int .i64 77) from
    (same_call (sg3.below k) (sm3.below k) rfl (by omega)).mono fun e w' ⟨h1, j, h2⟩ => ⟨h1, ⟨j, h2⟩, by rw [h2]; exact k.trans ((bel_drewN W j).mono k.size), by rw [h2]; exact HCl.out _ (k.trans ((bel_drewN W j).mono k.size))⟩))
  obtain ⟨d1, d77⟩ := HCl.out w3 (Below.refl _ _)
  have KD : Hid (Below w3.heap.size w3 w3.drew) := bel_drewN w3 1
  have E3 := hid_of (And.intro q3 f3)
  clear q3 f3 r3 x3 sg3 sm3 su3 c0 c1 c2 c3 c5
  have i0 : (0 : Int) ≤ (m.length : Int) := by omega
  have i1 : (m.length : Int) < ((m.length + 1 : Nat) : Int) := by omega
  have i2 : (m.length : Int) < (m.length : Int) + 1 := by omega
  go_wp2_with fail
  go_region_held3 (fun W => W.cell? ⟨w.heap.size, 1, none⟩ = some (.slice la m.length lc) ∧ W.cell? ⟨g, m.length, none⟩ = some (.int .i64 77)) (first | exact ⟨d1, d77⟩ | exact ⟨p1, p77⟩ | exact ⟨s1, s77⟩) (first
    | (go_at_call 18; have hk := KS.out; refine (HR.out _ hk).mono ?_; rintro e w4 ⟨r4, rfl, N4, p1, p77⟩)
    | (go_at_call 13; have hk := N4.out.2; refine (HSm.out _ hk).mono ?_; rintro e w5 ⟨rfl, J5, KS, s1, s77⟩)
    | (go_at_call 18; refine (HR.out _ KD.out).mono ?_; rintro e w4 ⟨r4, rfl, N4, p1, p77⟩)
    | (go_at_call 13; refine (HSm.out _ KD.out).mono ?_; rintro e w5 ⟨rfl, J5, KS, s1, s77⟩))
  all_goals
    go_wp2_with fail
    go_ret2
    first
      | (obtain ⟨j5, rfl⟩ := J5.out
         exact ⟨r4, rfl, next2 E2.out E3.out.1 E3.out.2 KS.out ((Pop.NR.drewN N4.out.1 j5).sl)⟩)
      | exact ⟨r4, rfl, next2 E2.out E3.out.1 E3.out.2 N4.out.2 N4.out.1.sl⟩
set_option maxHeartbeats 4000000 in
set_option maxRecDepth 100000 in
theorem do_3 {F : Nat → Prop} {B : Cx} {b : Nat} {l m : List El} {u : Value} {la : Option Addr} {lc : Nat} {w0 w : World} (h : Sx F B b l u w0 w) (hm : SL B.Lo w (.slice la m.length lc) m) (A Bq C : Int) (bf : Bool) (hA : In A) (hBq : In Bq) (hb : 3 * (l.length + m.length) ≤ 4194304) :
    Calls Try.prog 11 #[ptr b, u, .agg (box 3 A Bq C (.slice la m.length lc) bf)] w (DoE B b (doS l ⟨3, m, A, Bq, C, bf⟩) w0) := by
  obtain ⟨v1, w1, g, gc, w2, hrun1, hrun2, hgv, hg, hbx, k2⟩ := given_run 3 A Bq C bf hm (by omega)
  have E2 := hid_of (h.read k2)
  have c0 : w2.cell? ⟨w.heap.size, 0, none⟩ = some (.int .i64 3) := Lib.cell_of_heap hbx 0
  have c2 : w2.cell? ⟨w.heap.size, 2, none⟩ = some (.int .i64 A) := Lib.cell_of_heap hbx 2
  have c3 : w2.cell? ⟨w.heap.size, 3, none⟩ = some (.int .i64 Bq) := Lib.cell_of_heap hbx 3
  have c5 : w2.cell? ⟨w.heap.size, 5, none⟩ = some (.bool bf) := Lib.cell_of_heap hbx 5
  have HBx := hid_of hbx
  have hX : Hid (∀ k, F k → k < w.heap.size) := fun k e => (h.ow k e).2
  have hXw : w.heap.size < w2.heap.size := lt_of hbx
  obtain ⟨u1, u2, u3, rfl⟩ : ∃ u1 u2 u3, u = .slice u1 u2 u3 := by
    obtain ⟨a, c, e, _⟩ := h.sl
    exact ⟨a, _, c, e⟩
  have HA := hid_of hA
  have HBq := hid_of hBq
  have HL := hid_of (show (l.length + 1) * 8 ≤ 140737488355328 ∧ (3 * l.length + 2) * 8 ≤ 281474976710656 ∧ l.length ≤ 35184372088832 by omega)
  have HT := hid_of (fun (W : World) (k : Below w2.heap.size w2 W) => (show Calls Try.prog 24 #[.slice u1 u2 u3] W fun e w' => ∃ r, e = .returned r ∧ Hid (NR w2.heap.size w' r l.reverse ∧ Below w2.heap.size w2 w') ∧ w'.cell? ⟨w.heap.size, 2, none⟩ = some (.int .i64 A) from
    (turned_call ((E2.out.read k).sl) (by have := HL.out; omega)).mono fun e w' ⟨r, h1, h2, h3⟩ => ⟨r, h1, ⟨h2.mono k.size, k.trans (h3.mono k.size)⟩, Lib.cell_of_heap (((k.trans (h3.mono k.size)).block _ hXw).trans HBx.out) 2⟩))
  have HP := hid_of (fun (W : World) (t : Value) (n : NR w2.heap.size W t l.reverse ∧ Below w2.heap.size w2 W) => (show Calls Try.prog 21 #[t, .int .i64 A] W fun e w' => ∃ r s, e = .returned (.tuple #[r, s]) ∧ Hid (NR w2.heap.size w' r (l.drop (l.length - clamp A l.length)).reverse ∧ NR w2.heap.size w' s (l.take (l.length - clamp A l.length)).reverse ∧ Below w2.heap.size w2 w') ∧ w'.cell? ⟨w.heap.size, 2, none⟩ = some (.int .i64 A) from
    (rpop_call n.1.sl A (by rw [List.length_reverse]; have := HL.out; omega)).mono fun e w' ⟨r, s, h1, h2, h3, h4⟩ => ⟨r, s, h1, by
      rw [List.length_reverse, List.take_reverse] at h2
      rw [List.length_reverse, List.drop_reverse] at h3
      exact ⟨h2.mono n.2.size, h3.mono n.2.size, n.2.trans (h4.mono n.2.size)⟩, Lib.cell_of_heap (((n.2.trans (h4.mono n.2.size)).block _ hXw).trans HBx.out) 2⟩))
  have KD2 : Hid (Below w2.heap.size w2 w2.drew) := bel_drewN w2 1
  clear h hm hgv hbx k2 hA hBq hb
  go_enter Try.func11, Try.ntmps11
  go_wp2_with (first | (at_builtin; refine wpl_eq rfl _ _ 22 22 rfl (.slice none 0 0) (.slice la m.length lc) v1 _ w1 rfl rfl hrun1 ?_; clear hrun1) | (at_builtin; refine wpl_eq rfl _ _ 22 22 rfl v1 (.slice (some ⟨w1.heap.size, 0, none⟩) 1 1) (.slice (some ⟨g, 0, none⟩) (m.length + 1) gc) _ w2 rfl rfl hrun2 ?_; clear hrun2))
  go_region_held3 (fun W => W.cell? ⟨w.heap.size, 2, none⟩ = some (.int .i64 A)) (first | exact c2 | exact p2 | exact s2) (first
    | (go_at_call 24; refine (HT.out _ KD2.out).mono ?_; rintro e w3 ⟨t3, rfl, N3, p2⟩)
    | (go_at_call 21; refine (HP.out _ _ N3.out).mono ?_; rintro e w4 ⟨r4, s4, rfl, N4, s2⟩))
  all_goals
    have E4 := hid_of (E2.out.read N4.out.2.2)
    have k4 := clamp_le A l.length
    have hF2 : Hid (∀ k, F k ∨ B.X k → k < w2.heap.size) := fun k e => e.elim (fun e => (E2.out.ow k e).2) (E2.out.xw k)
    have hF4 : Hid (w2.heap.size ≤ w4.heap.size) := N4.out.2.2.size
    have HT4 := hid_of (fun (W : World) (k : Below w4.heap.size w4 W) => (show Calls Try.prog 24 #[s4] W fun e w' => ∃ r, e = .returned r ∧ Hid (NR W.heap.size w' r (l.take (l.length - clamp A l.length)) ∧ Below W.heap.size W w' ∧ Below w4.heap.size w4 w') ∧ w'.cell? ⟨w.heap.size, 2, none⟩ = some (.int .i64 A) from
      (turned_call (N4.out.2.1.sl.below k) (by rw [List.length_reverse, List.length_take]; have := HL.out; omega)).mono fun e w' ⟨r, h1, h2, h3⟩ => ⟨r, h1, by rw [List.reverse_reverse] at h2; exact ⟨h2, h3, k.trans (h3.mono k.size)⟩, Lib.cell_of_heap (((N4.out.2.2.trans ((k.trans (h3.mono k.size)).mono hF4.out)).block _ hXw).trans HBx.out) 2⟩))
    have HP4 := hid_of (fun (W : World) (k : Below w4.heap.size w4 W) => (show Calls Try.prog 39 #[ptr b, .int .i64 A] W fun e w' => ∃ v, e = .returned v ∧ Hid (NR W.heap.size w' v (l.drop (l.length - clamp A l.length)).reverse ∧ DQ (Gr F W) b (l.take (l.length - clamp A l.length)) w' ∧ Fr F W w') ∧ w'.cell? ⟨w.heap.size, 2, none⟩ = some (.int .i64 A) from
      (popBack_call ((E4.out.read k).dq) A (by have := HL.out; omega)).mono fun e w' ⟨v, h1, h2, h3, h4⟩ => ⟨v, h1, ⟨h2, h3, h4⟩, Lib.cell_of_heap ((h4.block _ (by have := hF4.out; have := k.size; omega) fun c => Nat.lt_irrefl _ (hX.out _ c)).trans (((N4.out.2.2.trans (k.mono hF4.out)).block _ hXw).trans HBx.out)) 2⟩))
    have KD4 : Hid (Below w4.heap.size w4 w4.drew) := bel_drewN w4 1
    have HG4 := hid_of (fun (W W' : World) (k : Below w4.heap.size w4 W) (f : Fr F W W') => And.intro (show SL (fun _ => True) W' r4 (l.drop (l.length - clamp A l.length)).reverse from (nr_sl (N4.out.1.below k) hF2.out f).mono fun _ _ _ => trivial) (show SL (fun _ => True) W' s4 (l.take (l.length - clamp A l.length)).reverse from (nr_sl (N4.out.2.1.below k) hF2.out f).mono fun _ _ _ => trivial))
    have HS4 := hid_of (fun (W : World) (v : Value) (h1 : SL (fun _ => True) W v (l.drop (l.length - clamp A l.length)).reverse) (h2 : SL (fun _ => True) W r4 (l.drop (l.length - clamp A l.length)).reverse) (hc : W.cell? ⟨w.heap.size, 2, none⟩ = some (.int .i64 A)) => (show Calls Try.prog 13 #[v, r4] W fun e w' => e = .returned (.bool true) ∧ Hid (∃ j, w' = W.drewN j) ∧ w'.cell? ⟨w.heap.size, 2, none⟩ = some (.int .i64 A) from
      (same_call h1 h2 rfl (by rw [List.length_reverse, List.length_drop]; have := HL.out; omega)).mono fun e w' ⟨a1, j, a2⟩ => ⟨a1, ⟨j, a2⟩, by rw [a2]; exact hc⟩))
    have HTP := hid_of (fun (W5 W : World) (f : Fr F w4.drew W5) (k : Below W5.heap.size W5 W) (hc : W5.cell? ⟨w.heap.size, 2, none⟩ = some (.int .i64 A)) => (show Calls Try.prog 24 #[s4] W fun e w' => ∃ r, e = .returned r ∧ Hid (NR W5.heap.size w' r (l.take (l.length - clamp A l.length)) ∧ Below W5.heap.size W5 w') ∧ w'.cell? ⟨w.heap.size, 2, none⟩ = some (.int .i64 A) from
      (turned_call ((HG4.out _ W5 KD4.out f).2.below k) (by rw [List.length_reverse, List.length_take]; have := HL.out; omega)).mono fun e w' ⟨r, h1, h2, h3⟩ => ⟨r, h1, by rw [List.reverse_reverse] at h2; exact ⟨h2.mono k.size, k.trans (h3.mono k.size)⟩, ((k.trans (h3.mono k.size)).cell (p := ⟨w.heap.size, 2, none⟩) (cell_lt hc)).trans hc⟩))
    clear c0 c2 c3 c5 p2 HT HP
    go_wp2_with fail
    go_region_held3 (fun W => W.cell? ⟨w.heap.size, 2, none⟩ = some (.int .i64 A)) (first | exact s2 | exact t2 | exact x2 | exact y2) (first
      | (go_at_call 39; have hk := NT.out.2.2; refine (HP4.out _ hk).mono ?_; rintro e w6 ⟨v6, rfl, NP, x2⟩; have G6 := hid_of (HG4.out _ _ hk NP.out.2.2).1; clear hk)
      | (go_at_call 13; have hg := G6.out; refine (HS4.out _ _ (NP.out.1.sl.mono fun _ _ _ => trivial) hg x2).mono ?_; rintro e w7 ⟨rfl, J7, y2⟩; clear hg)
      | (go_at_call 24; have hj := JQ.out; refine (HTP.out w5 _ NQ.out.2.2 (by obtain ⟨j, hj⟩ := hj; rw [hj]; exact bel_drewN w5 j) x2).mono ?_; rintro e w8 ⟨r8, rfl, NU, t2⟩; clear hj)
      | (go_at_call 24; have hq := NQ.out; refine (HTP.out w5 w5 hq.2.2 (Below.refl _ _) x2).mono ?_; rintro e w8 ⟨r8, rfl, NU, t2⟩; have GU := hid_of (hq.1.below NU.out.2); have GR := hid_of ((HG4.out _ _ KD4.out hq.2.2).1.below NU.out.2); clear hq)
      | (go_at_call 13; have hg := GU.out; refine (HS4.out _ _ (hg.sl.mono fun _ _ _ => trivial) GR.out t2).mono ?_; rintro e w9 ⟨rfl, J9, y2⟩; clear hg)
      | (go_at_call 13; have hq := NQ.out; refine (HS4.out _ _ (hq.1.sl.mono fun _ _ _ => trivial) (HG4.out _ _ KD4.out hq.2.2).1 x2).mono ?_; rintro e w7 ⟨rfl, JQ, y2⟩; clear hq)
      | (go_at_call 24; refine (HT4.out _ KD4.out).mono ?_; rintro e w5 ⟨r5, rfl, NT, t2⟩)
      | (go_at_call 39; refine (HP4.out _ KD4.out).mono ?_; rintro e w5 ⟨v5, rfl, NQ, x2⟩))
    all_goals
      go_wp2_with fail
      go_ret2
      first
        | (obtain ⟨j7, rfl⟩ := J7.out
           obtain ⟨F', q⟩ := (E4.out.read NT.out.2.2).next NP.out.2.1 NP.out.2.2 (nr_sl NT.out.1 (fun k e => Nat.lt_of_lt_of_le (hF2.out k e) hF4.out) NP.out.2.2)
           exact ⟨r5, rfl, F', q.drewN j7⟩)
        | (obtain ⟨j9, rfl⟩ := J9.out
           exact ⟨r8, rfl, next2 (E4.out.drewN 1) NQ.out.2.1 NQ.out.2.2 (NU.out.2.trans ((bel_drewN _ j9).mono NU.out.2.size)) (Pop.NR.drewN NU.out.1 j9).sl⟩)
        | exact ⟨r8, rfl, next2 (E4.out.drewN 1) NQ.out.2.1 NQ.out.2.2 NU.out.2 NU.out.1.sl⟩
end Go.Proofs.Ytdmjfmojacnbeaa.EoD
