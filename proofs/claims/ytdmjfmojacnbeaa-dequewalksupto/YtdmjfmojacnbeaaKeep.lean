/- within, keep. -/
import Derived.Test.YtdmjfmojacnbeaaPush
import Derived.Deep.QuietTactic
namespace Go.Proofs.Ytdmjfmojacnbeaa.Keep
open Go.RowKit
open Go.Proofs.Ytdmjfmojacnbeaa.Base
open Go.Proofs.Ytdmjfmojacnbeaa.Held
open Go.Proofs.Ytdmjfmojacnbeaa.Lay
open Go.Proofs.Ytdmjfmojacnbeaa.Free
open Go.Proofs.Ytdmjfmojacnbeaa.Push
set_option linter.unusedVariables false
set_option linter.unusedSimpArgs false
/-- a count that is neither below 0 nor past what there is -/
def clamp (x : Int) (k : Nat) : Nat := if x < 0 then 0 else if (k : Int) < x then k else x.toNat
theorem clamp_le (x : Int) (k : Nat) : clamp x k ≤ k := by unfold clamp; split <;> (try split) <;> omega
theorem ret_int {k : IntKind} {a b : Int} (h : a = b) : Ending.returned (.int k a) = .returned (.int k b) := by rw [h]
theorem within_call (x : Int) (k : Nat) (w : World) : Calls Try.prog 54 #[.int .i64 x, .int .i64 (k : Int)] w fun e w' => e = .returned (.int .i64 ((clamp x k : Nat) : Int)) ∧ w' = w := by
  have e0 : min (max x 0) (k : Int) = ((clamp x k : Nat) : Int) := by unfold clamp; split <;> (try split) <;> omega
  have H := hid_of e0
  clear e0
  go_enter Try.func54, Try.ntmps54
  go_wp2
  all_goals
    go_ret
    exact ⟨ret_int (by have := H.out; (try (split at *)) <;> omega), rfl⟩
theorem zero3 (w : World) : (zeroValue 3).run Try.prog w = .ok (V Z) w := by kernel_rfl
theorem zcells (k : Nat) : (Builtin.zeroCells (V Z).cells k).toList = (List.replicate k Z).map V := by
  rw [zeros_cells]; simp [cells]
/-- clear -/
theorem clear_run {w : World} {g : Nat} {xs : List El} (hr : RowIs w g xs) {d : Option Addr} {o k dc : Nat} (hd : 0 < k → d = some ⟨g, o, none⟩) (ho : o + k ≤ xs.length) :
    ∃ w', (∀ ty, (Builtin.clear_ #[22] ty #[.slice d k dc]).run Try.prog w = .ok (.tuple #[]) w') ∧ RowIs w' g (lay xs o (List.replicate k Z)) ∧ ∃ cs, w' = w.setRow g cs := by
  rcases Nat.eq_zero_or_pos k with rfl | hp
  · refine ⟨w, fun ty => ?_, by simpa [lay] using hr, cells xs, (setRow_self w g _ 3 (0, 0) hr).symm⟩
    cases d <;> simp [Builtin.clear_, run_underlying Try.underlying22]
  · rw [hd hp]
    refine ⟨_, fun ty => ?_, hr.lay o (List.replicate k Z), _, rfl⟩
    obtain ⟨m, rfl⟩ : ∃ m, k = m + 1 := ⟨k - 1, by omega⟩
    have hst := run_storeCells_at Try.prog g o 3 ((List.replicate (m + 1) Z).map V) 0 (cells xs) w hr (by rw [List.length_map, List.length_replicate, cells_size]; omega) (fun v hv => by
      obtain ⟨x, _, rfl⟩ := List.mem_map.1 hv
      rfl)
    simp only [Nat.add_zero] at hst
    have hz := zcells (m + 1)
    have hz2 : (Builtin.zeroCells (V Z).cells (m + 1)).toList = (Builtin.zeroCells (Value.int .i64 0).cells (m + 1)).toList := rfl
    simp [Builtin.clear_, run_underlying Try.underlying22, zero3]
    rw [← hz2, hz, hst]
    simp
theorem lay_before {xs : List El} {o : Nat} {cs : List El} {k : Nat} (h : k < o) (ho : o ≤ xs.length) : (lay xs o cs)[k]? = xs[k]? := by
  unfold lay
  rw [List.append_assoc, List.getElem?_append_left (by simp; omega), List.getElem?_take_of_lt h]
theorem lay_behind {xs : List El} {o : Nat} {cs : List El} {k : Nat} (h : o + cs.length ≤ k) (ho : o + cs.length ≤ xs.length) : (lay xs o cs)[k]? = xs[k]? := by
  unfold lay
  rw [List.getElem?_append_right (by simp; omega), List.getElem?_drop]
  congr 1
  simp
  omega
/-- a part of what stands there -/
theorem part_is {xs ys l : List El} {f i j : Nat} (h : (xs.drop f).take l.length = l) (hj : j ≤ l.length) (hy : ∀ k, f + i ≤ k → k < f + j → ys[k]? = xs[k]?) : (ys.drop (f + i)).take ((l.drop i).take (j - i)).length = (l.drop i).take (j - i) := by
  apply List.ext_getElem?
  intro k
  have hL : ((l.drop i).take (j - i)).length = j - i := by simp; omega
  rw [hL, List.getElem?_take, List.getElem?_take]
  by_cases q : k < j - i
  · rw [if_pos q, if_pos q, List.getElem?_drop, List.getElem?_drop, hy _ (by omega) (by omega), ← h, List.getElem?_take, if_pos (by omega), List.getElem?_drop]
    congr 1
    omega
  · rw [if_neg q, if_neg q]
/-- the two clears of keep: of what is ahead, of what is behind -/
theorem two_clears {F : Nat → Prop} {b : Nat} {a : Option Addr} {n c f : Nat} {xs l : List El} {w : World} (h : DK F b a n c f xs l w) {i j : Nat} (hij : i ≤ j) (hj : j ≤ l.length) :
    ∃ W1 W2 ys, (∀ ty, (Builtin.clear_ #[22] ty #[.slice (ca a c f) i (c - f)]).run Try.prog w = .ok (.tuple #[]) W1) ∧ (∀ ty, (Builtin.clear_ #[22] ty #[.slice (ca (ca a c f) (c - f) j) (l.length - j) (c - f - j)]).run Try.prog W1 = .ok (.tuple #[]) W2) ∧
      W2.heap[b]? = w.heap[b]? ∧ Fr F w W2 ∧ ((a = none ∧ c = 0) ∨ ∃ g, a = some ⟨g, 0, none⟩ ∧ F g ∧ ys.length = c ∧ RowIs W2 g ys) ∧ ∀ k, f + i ≤ k → k < f + j → ys[k]? = xs[k]? := by
  have h1 := h.fit
  have h2 := h.nc
  rcases h.row with ⟨rfl, rfl⟩ | ⟨g, rfl, hF, hx, hr⟩
  · have e1 : i = 0 := by omega
    have e2 : l.length - j = 0 := by omega
    subst e1
    refine ⟨w, w, xs, fun ty => ?_, fun ty => ?_, rfl, Fr.refl _ _, .inl ⟨rfl, rfl⟩, fun _ _ _ => rfl⟩
    · generalize ca none 0 f = d
      cases d <;> simp [Builtin.clear_, run_underlying Try.underlying22]
    · rw [e2]
      generalize ca (ca none 0 f) (0 - f) j = d
      cases d <;> simp [Builtin.clear_, run_underlying Try.underlying22]
  · obtain ⟨W1, k1, r1, cs1, q1⟩ := clear_run (d := ca (some ⟨g, 0, none⟩) c f) (o := f) (k := i) (dc := c - f) hr (fun _ => by rw [ca_some _ _ _ _ (by omega), Nat.zero_add]) (by omega)
    have l1 : (lay xs f (List.replicate i Z)).length = c := by rw [lay_len (by simp; omega)]; exact hx
    obtain ⟨W2, k2, r2, cs2, q2⟩ := clear_run (d := ca (ca (some ⟨g, 0, none⟩) c f) (c - f) j) (o := f + j) (k := l.length - j) (dc := c - f - j) r1 (fun _ => by rw [ca_some _ _ _ _ (by omega), ca_some _ _ _ _ (by omega), Nat.zero_add]) (by omega)
    have nb := h.ne hr
    refine ⟨W1, W2, _, k1, k2, by rw [q2, row_ne nb, q1, row_ne nb], ?_, .inr ⟨g, rfl, hF, by rw [lay_len (by simp; omega)]; exact l1, r2⟩, fun k hk1 hk2 => ?_⟩
    · rw [q2, q1]
      exact (Fr.row hF _).trans (Fr.row (.inl hF) _)
    · rw [lay_before (by omega) (by omega), lay_behind (by simp; omega) (by simp; omega)]
set_option maxHeartbeats 2000000 in
set_option maxRecDepth 100000 in
theorem keep_call {F : Nat → Prop} {b : Nat} {l : List El} {w : World} (h : DQ F b l w) (i j : Nat) (X Y : Int) (hX : X = i) (hY : Y = j) (hij : i ≤ j) (hj : j ≤ l.length) :
    Calls Try.prog 67 #[ptr b, .int .i64 X, .int .i64 Y] w fun e w' => e = .returned (.tuple #[]) ∧ DQ (Gr F w) b ((l.drop i).take (j - i)) w' ∧ Fr F w w' := by
  obtain ⟨a, n, c, f, xs, h⟩ := h
  have H := hid_of (held_call h)
  have HD := hid_of h
  have h1 := h.fit
  have h2 := h.nc
  have h3 := h.lim
  obtain ⟨L, HL⟩ : ∃ L, Hid (L = l.length) := ⟨_, hid_of rfl⟩
  have hcut1 := cut_hi (ca a c f) l.length (c - f) i X hX (by omega)
  have hcut2 := cut_lo (ca a c f) l.length (c - f) j Y hY hj
  obtain ⟨p, HP⟩ : ∃ p, Hid (p = f + i) := ⟨_, hid_of rfl⟩
  obtain ⟨q, HQ⟩ : ∃ q, Hid (q = f + j) := ⟨_, hid_of rfl⟩
  have eP : (f : Int) + X = (p : Int) := by rw [HP.out, hX]; simp
  have eQ : (f : Int) + Y = (q : Int) := by rw [HQ.out, hY]; simp
  have bX : 0 ≤ X ∧ X ≤ 35184372088832 := by omega
  have bY : 0 ≤ Y ∧ Y ≤ 35184372088832 := by omega
  obtain ⟨bX1, bX2⟩ := bX
  obtain ⟨bY1, bY2⟩ := bY
  have bf : f ≤ 35184372088832 := by omega
  have wP : IntKind.i64.wrap ((f : Int) + X) = (f : Int) + X := IntWalk.i64_in _ (by omega)
  have wQ : IntKind.i64.wrap ((f : Int) + Y) = (f : Int) + Y := IntWalk.i64_in _ (by omega)
  have B := hid_of (And.intro h1 (And.intro h2 (And.intro h3 (And.intro hij hj))))
  clear h h1 h2 hij hj hX hY
  go_enter Try.func67, Try.ntmps67
  go_wp2_with fail
  refine H.out.mono ?_
  rintro e w1 ⟨rfl, m, rfl⟩
  obtain ⟨W1, W2, ys, k1, k2, kb, kf, kr, ky⟩ := two_clears (DK.drewN HD.out m) B.out.2.2.2.1 B.out.2.2.2.2
  have q0 := kb.trans HD.out.blk
  have c0 : W2.cell? ⟨b, 0, none⟩ = some (.slice a n c) := Lib.cell_of_heap q0 0
  have c1 : W2.cell? ⟨b, 1, none⟩ = some (.int .i64 (f : Int)) := Lib.cell_of_heap q0 1
  have c2 : W2.cell? ⟨b, 2, none⟩ = some _ := Lib.cell_of_heap q0 2
  have z1 : W2.frozen? ⟨b, 1, none⟩ = false := Lib.frozen_of_heap q0 1
  have z2 : W2.frozen? ⟨b, 2, none⟩ = false := Lib.frozen_of_heap q0 2
  obtain ⟨W3, HW3⟩ : ∃ W3, Hid (((W2.setCell ⟨b, 1, none⟩ (.int .i64 (p : Int))).setCell ⟨b, 2, none⟩ (.int .i64 (q : Int))).drew = W3) := ⟨_, hid_of rfl⟩
  have hdk : DK F b a n c p ys ((l.drop i).take (j - i)) W3 := by
    obtain ⟨h1, h2, h3, hij, hj⟩ := B.out
    have hL : ((l.drop i).take (j - i)).length = j - i := by simp; omega
    rw [← HW3.out]
    refine ⟨?_, HD.out.own, by rw [hL, HP.out]; omega, h2, h3, ?_, by rw [HP.out]; exact part_is HD.out.is hj ky⟩
    · show ((W2.setCell ⟨b, 1, none⟩ _).setCell ⟨b, 2, none⟩ _).heap[b]? = _
      rw [set_at (set_at q0 _) _, hL, show p + (j - i) = q by rw [HP.out, HQ.out]; omega]
      simp
    · rcases kr with r | ⟨g, e, hF, hx, hr⟩
      · exact .inl r
      · have nb : g ≠ b := by
          rintro rfl
          rw [show W2.heap[g]? = _ from hr] at q0
          injection q0 with q0
          injection q0 with _ q0
          exact absurd q0 (by decide)
        refine .inr ⟨g, e, hF, hx, ?_⟩
        show ((W2.setCell ⟨b, 1, none⟩ _).setCell ⟨b, 2, none⟩ _).heap[g]? = _
        rw [set_ne nb, set_ne nb]
        exact hr
  have hfr : Fr F w W3 := by
    rw [← HW3.out]
    have f0 : Fr F w W2 := ⟨kf.os, kf.tape, kf.output, kf.size, kf.block⟩
    exact ((f0.trans (Fr.set (.inl HD.out.own) _)).trans (Fr.set (.inl HD.out.own) _)).drew
  obtain ⟨M, HM⟩ : ∃ M, Hid (M = ((l.drop i).take (j - i)).length) := ⟨_, hid_of rfl⟩
  have hM : M ≤ 35184372088832 := by have := B.out; rw [HM.out]; simp; omega
  have HN := hid_of (fun k => len_call (DQ.drewN ⟨_, _, _, _, _, hdk⟩ k))
  have HLay := hid_of (fun k (hq : M ≤ 4398046511104) => lay_call (DQ.drewN ⟨_, _, _, _, _, hdk⟩ k) M (by rw [← HM.out]; omega))
  rw [← HM.out] at HN
  have d0 : W3.cell? ⟨b, 0, none⟩ = some (.slice a n c) := hdk.cell 0
  have K := hid_of (And.intro hdk hfr)
  have w8 : IntKind.i64.wrap ((M : Int) + 8) = (M : Int) + 8 := IntWalk.i64_in _ (by omega)
  have w9 : IntKind.i64.wrap (8 * ((M : Int) + 8)) = 8 * ((M : Int) + 8) := IntWalk.i64_in _ (by omega)
  clear kb kf kr ky hdk hfr q0
  go_wp2_with (first | simp only [k1] | simp only [k2])
  clear k1 k2 d0
  go_region
  rw [HW3.out]
  clear c0 c1 c2 z1 z2 HW3
  have d0 : W3.cell? ⟨b, 0, none⟩ = some (.slice a n c) := K.out.1.cell 0
  by_cases g1 : 8 * ((M : Int) + 8) < (n : Int)
  · have g2 : decide (8 * ((M : Int) + 8) < (n : Int)) = true := by simpa using g1
    go_wp2_with fail
    go_quiet (first | exact Calls.quiet_of (HN.out _))
    go_wp2_with fail
    refine (HN.out _).mono ?_
    rintro e w5 ⟨rfl, m5, rfl⟩
    go_wp2_with fail
    refine (HLay.out (nq + m5) (by omega)).mono ?_
    rintro e w6 ⟨rfl, ⟨a', c', xs', k⟩, fr⟩
    have K2 := hid_of (And.intro k fr)
    clear k fr
    go_wp2_with fail
    go_end0
    obtain ⟨r1, r2⟩ := K2.out
    have f2 := K.out.2
    refine ⟨rfl, ⟨_, _, _, _, _, r1.mono fun k hk e => ?_⟩, ?_⟩
    · rcases e with e | e
      · exact .inl e
      · exact .inr (Nat.le_trans f2.size e)
    · exact f2.trans ⟨r2.os, r2.tape, r2.output, r2.size, fun k hk hn => r2.block k hk fun e => hn (.inl e)⟩
  · have g2 : decide (8 * ((M : Int) + 8) < (n : Int)) = false := by simpa using g1
    go_wp2_with fail
    go_quiet (first | exact Calls.quiet_of (HN.out _))
    go_wp2_with fail
    go_end0
    exact ⟨rfl, ⟨_, _, _, _, _, DK.up (DK.drewN K.out.1 nq) w⟩, K.out.2.drewN nq⟩
end Go.Proofs.Ytdmjfmojacnbeaa.Keep
