/- PushFront. -/
import Derived.Test.YtdmjfmojacnbeaaPush
namespace Go.Proofs.Ytdmjfmojacnbeaa.Front
open Go.RowKit
open Go.Proofs.Ytdmjfmojacnbeaa.Base
open Go.Proofs.Ytdmjfmojacnbeaa.Held
open Go.Proofs.Ytdmjfmojacnbeaa.Lay
open Go.Proofs.Ytdmjfmojacnbeaa.Free
open Go.Proofs.Ytdmjfmojacnbeaa.Push
set_option linter.unusedVariables false
set_option linter.unusedSimpArgs false
theorem front_is {xs L : List El} {p : Nat} {x : El} (hp : p < xs.length) (h : (xs.drop (p + 1)).take L.length = L) : ((xs.set p x).drop p).take (x :: L).length = x :: L := by
  have e : (xs.set p x).drop p = x :: xs.drop (p + 1) := by
    rw [List.drop_eq_getElem_cons (by simpa using hp), List.getElem_set_self, List.drop_set, if_pos (by omega)]
  rw [e, List.length_cons, List.take_succ_cons, h]
theorem push_step (m l : List El) (i : Nat) (h : i < m.length) : (m.take (i + 1)).reverse ++ l = m[i] :: ((m.take i).reverse ++ l) := by
  rw [List.take_succ_eq_append_getElem h, List.reverse_append, List.reverse_singleton, List.append_assoc]
  rfl
set_option maxHeartbeats 2000000 in
set_option maxRecDepth 100000 in
theorem pushFront_call {F : Nat → Prop} {b : Nat} {l m : List El} {v : Value} {w : World} (h : DQ F b l w) (hm : SL (fun k => ¬ F k) w v m) (hs : (2 * (m.length + l.length) + l.length) * 8 ≤ 281474976710656) :
    Calls Try.prog 36 #[ptr b, v] w fun e w' => e = .returned (.tuple #[]) ∧ DQ (Gr F w) b (m.reverse ++ l) w' ∧ Fr F w w' := by
  have HF := hid_of (free_call h m.length 0 (m.length : Int) 0 rfl rfl (by omega))
  obtain ⟨am, cm, rfl, hcm, hrm⟩ := hm
  have HM := hid_of hrm
  have bm : m.length ≤ 281474976710656 := by omega
  clear h hrm hcm hs
  go_enter Try.func36, Try.ntmps36
  go_wp2_with fail
  refine HF.out.mono ?_
  rintro e w1 ⟨rfl, ⟨a, n, c, f, xs, k, hx, hy⟩, fr⟩
  have hn : f ≤ 35184372088832 := by have := k.lim; have := k.fit; omega
  have K := hid_of (And.intro k fr)
  clear k fr hy
  go_wp2_with fail
  go_loopg [14] m.length (fun g s14 wx => ∃ (i : Nat) (ys : List El), i ≤ m.length ∧ m.length ≤ i + g ∧ s14 = .int .i64 i ∧ Hid (DK (Gr F w) b a n c (f - i) ys ((m.take i).reverse ++ l) wx ∧ Fr F w wx))
  case atStart => exact ⟨0, xs, by omega, by omega, rfl, K⟩
  case round =>
    obtain ⟨i, ys, hi, hg, rfl, R⟩ := hrel
    by_cases hlt : i < m.length
    · obtain ⟨g', rfl⟩ : ∃ g', gk = g' + 1 := ⟨gk - 1, by omega⟩
      obtain ⟨k, fr⟩ := R.out
      obtain ⟨p, hp⟩ : ∃ p, f - i = p + 1 := ⟨f - i - 1, by omega⟩
      rw [hp] at k
      obtain ⟨gm, om, rfl, hnG, hcm⟩ : ∃ gm om, am = some ⟨gm, om, none⟩ ∧ ¬ Gr F w gm ∧ ∀ j x, m[j]? = some x → wr.cell? ⟨gm, om + j, none⟩ = some (V x) := by
        rcases rd_fr HM.out fr with e | q
        · rw [e] at hlt; simp at hlt
        · exact q
      have cx : wr.cell? ⟨gm, om + i, none⟩ = some (V m[i]) := hcm i _ (List.getElem?_eq_getElem hlt)
      have k1 := k.fit
      have k2 := k.nc
      obtain ⟨g, rfl, hF, hyc, hr⟩ : ∃ g, a = some ⟨g, 0, none⟩ ∧ Gr F w g ∧ ys.length = c ∧ RowIs wr g ys := by
        rcases k.row with ⟨_, e⟩ | q
        · omega
        · exact q
      have nbg := k.ne hr
      have nmb : gm ≠ b := fun e => hnG (by rw [e]; exact k.own)
      have c0 : wr.cell? ⟨b, 0, none⟩ = some (.slice (some ⟨g, 0, none⟩) n c) := k.cell 0
      have c1 : wr.cell? ⟨b, 1, none⟩ = some (.int .i64 ((p + 1 : Nat) : Int)) := k.cell 1
      have z1 : wr.frozen? ⟨b, 1, none⟩ = false := k.frozen 1
      have hpn : p < n := by omega
      have cp : wr.cell? ⟨g, p, none⟩ = some (V ys[p]) := by rw [hr.cell, List.getElem?_eq_getElem (by omega)]; rfl
      have zp : wr.frozen? ⟨g, p, none⟩ = false := hr.frozen p
      have HK := hid_of (show DK (Gr F w) b (some ⟨g, 0, none⟩) n c (f - (i + 1)) (ys.set p m[i]) ((m.take (i + 1)).reverse ++ l) ((wr.setCell ⟨b, 1, none⟩ (.int .i64 (p : Int))).setCell ⟨g, p, none⟩ (V m[i])) by
        rw [push_step m l i hlt, show f - (i + 1) = p by omega]
        refine ⟨?_, k.own, by rw [List.length_cons]; omega, k.nc, k.lim, .inr ⟨g, rfl, hF, by rw [List.length_set]; exact hyc, ?_⟩, front_is (by omega) k.is⟩
        · rw [set_ne nbg, set_at k.blk]
          simp [Nat.add_assoc, Nat.add_comm, Nat.add_left_comm]
        · exact RowIs.set ((set_ne (Ne.symm nbg) _).trans hr) p m[i])
      have HFr := hid_of (show Fr F w ((wr.setCell ⟨b, 1, none⟩ (.int .i64 (p : Int))).setCell ⟨g, p, none⟩ (V m[i])) from (fr.trans (Fr.set k.own _)).trans (Fr.set hF _))
      have pI : ((p + 1 : Nat) : Int) = (p : Int) + 1 := by simp
      rw [pI] at c1
      have hpb : p ≤ 35184372088832 := by omega
      obtain ⟨W1, HW1⟩ : ∃ W1, Hid (wr.setCell ⟨b, 1, none⟩ (.int .i64 (p : Int)) = W1) := ⟨_, hid_of rfl⟩
      have d0 : W1.cell? ⟨b, 0, none⟩ = some (.slice (some ⟨g, 0, none⟩) n c) := by rw [← HW1.out, World.cell?_setCell_other _ _ _ _ (by simp)]; exact c0
      have d1 : W1.cell? ⟨b, 1, none⟩ = some (.int .i64 (p : Int)) := by rw [← HW1.out]; exact World.cell?_setCell_same _ _ _ c1
      have dp : W1.cell? ⟨g, p, none⟩ = some (V ys[p]) := by rw [← HW1.out, World.cell?_setCell_other _ _ _ _ (by simp [Ne.symm nbg])]; exact cp
      have yp : W1.frozen? ⟨g, p, none⟩ = false := by rw [← HW1.out, World.frozen?_setCell]; exact zp
      rw [HW1.out] at HK HFr
      clear cp zp
      generalize m[i] = x at *
      generalize ys[p] = y at *
      clear R k fr hr hcm hnG hp k1 k2 hyc pI
      go_wp2_with fail
      rw [HW1.out]
      clear c0 c1 z1 cx HW1
      go_region
      all_goals
        go_wp2_with fail
        go_roundg g'
        case measure => omega
        case rel => exact ⟨i + 1, _, by omega, by omega, by simp, DK.drewN HK.out 1, HFr.out.drew⟩
    · have hi2 : i = m.length := by omega
      subst hi2
      have HK := hid_of R.out
      rw [List.take_of_length_le (Nat.le_refl _)] at HK
      clear R
      go_wp2_with fail
      go_end0
      exact ⟨rfl, ⟨_, _, _, _, _, HK.out.1⟩, HK.out.2⟩
end Go.Proofs.Ytdmjfmojacnbeaa.Front
