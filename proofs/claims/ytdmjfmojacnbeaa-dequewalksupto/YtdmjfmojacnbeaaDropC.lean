/- drop. -/
import Derived.Test.YtdmjfmojacnbeaaFindA
namespace Go.Proofs.Ytdmjfmojacnbeaa.DropC
open Go.RowKit
open Go.Proofs.Ytdmjfmojacnbeaa.Base
open Go.Proofs.Ytdmjfmojacnbeaa.Held
open Go.Proofs.Ytdmjfmojacnbeaa.Lay
open Go.Proofs.Ytdmjfmojacnbeaa.Free
open Go.Proofs.Ytdmjfmojacnbeaa.Keep
open Go.Proofs.Ytdmjfmojacnbeaa.Place
open Go.Proofs.Ytdmjfmojacnbeaa.FindMath
open Go.Proofs.Ytdmjfmojacnbeaa.Find
set_option linter.unusedVariables false
set_option linter.unusedSimpArgs false
/-- what is left from place i on without the places ps -/
def dropS : List El → Nat → List Nat → List El
  | [], _, _ => []
  | x :: r, i, [] => x :: dropS r (i + 1) []
  | x :: r, i, p :: ps => if i = p then dropS r (i + 1) ps else x :: dropS r (i + 1) (p :: ps)
theorem drop_cons (l : List El) (i : Nat) (h : i < l.length) : l.drop i = l[i] :: l.drop (i + 1) := List.drop_eq_getElem_cons h
structure Inv (l : List El) (ps : List Nat) (i j left : Nat) (M : List El) : Prop where
  len : M.length = l.length
  le : left ≤ i
  il : i ≤ l.length
  back : M.drop i = l.drop i
  is : M.take left ++ dropS (l.drop i) i (ps.drop j) = dropS l 0 ps
theorem Inv.start (l : List El) (ps : List Nat) : Inv l ps 0 0 0 l := ⟨rfl, Nat.le_refl _, Nat.zero_le _, rfl, by simp⟩
theorem Inv.skip {l M : List El} {ps rest : List Nat} {i j left p : Nat} (h : Inv l ps i j left M) (hi : i < l.length) (hp : ps.drop j = p :: rest) (e : i = p) : Inv l ps (i + 1) (j + 1) left M := by
  refine ⟨h.len, by have := h.le; omega, by omega, ?_, ?_⟩
  · have := congrArg (List.drop 1) h.back
    rw [List.drop_drop, List.drop_drop] at this
    exact this
  · have hr : ps.drop (j + 1) = rest := by
      have := congrArg (List.drop 1) hp
      rw [List.drop_drop] at this
      exact this
    rw [hr, ← h.is, hp, drop_cons l i hi, dropS, if_pos e]
theorem Inv.stay {l M : List El} {ps : List Nat} {i j left : Nat} (h : Inv l ps i j left M) (hi : i < l.length) (hp : ps.drop j = [] ∨ ∃ p rest, ps.drop j = p :: rest ∧ i ≠ p) : Inv l ps (i + 1) j (left + 1) (M.set left l[i]) := by
  have hl := h.len
  have hle := h.le
  refine ⟨by rw [List.length_set]; exact hl, by omega, by omega, ?_, ?_⟩
  · have := congrArg (List.drop 1) h.back
    rw [List.drop_drop, List.drop_drop] at this
    rw [List.drop_set, if_pos (by omega)]
    exact this
  · rw [← h.is, drop_cons l i hi, List.take_succ_eq_append_getElem (by rw [List.length_set]; omega), List.getElem_set_self, List.take_set, List.set_eq_of_length_le (by simp; omega), List.append_assoc]
    congr 1
    rcases hp with hp | ⟨p, rest, hp, ne⟩
    · rw [hp, dropS]; rfl
    · rw [hp, dropS, if_neg ne]; rfl
theorem Inv.fin {l M : List El} {ps : List Nat} {j left : Nat} (h : Inv l ps l.length j left M) : M.take left = dropS l 0 ps := by
  rw [← h.is]; simp [dropS]
theorem Inv.at {l M : List El} {ps : List Nat} {i j left : Nat} (h : Inv l ps i j left M) (hi : i < l.length) : M[i]? = some l[i] := by
  have := congrArg (fun x => x[0]?) h.back
  simp only [List.getElem?_drop, Nat.add_zero] at this
  rw [this, List.getElem?_eq_getElem hi]
set_option maxHeartbeats 4000000 in
set_option maxRecDepth 100000 in
theorem drop_call {F : Nat → Prop} {b : Nat} {l : List El} {w : World} (h : DQ F b l w) {pv : Value} {ps : List Nat} (hp : Base.SL (fun k => ¬ F k) w pv (ints ps)) :
    Calls Try.prog 72 #[ptr b, pv] w fun e w' => e = .returned (.tuple #[]) ∧ DQ (Gr F w) b (dropS l 0 ps) w' ∧ Fr F w w' := by
  have hl := lim_of h
  obtain ⟨a, n, c, f, xs, h⟩ := h
  have HH := hid_of (held_call h)
  obtain ⟨pa0, pc0, rfl, hpc0, hprd⟩ := hp
  rw [ints_len] at hpc0 ⊢
  have K0 := hid_of (fun m => And.intro (DK.drewN h m) (And.intro hpc0 hprd))
  obtain ⟨L, HL⟩ : ∃ L, Hid (L = l.length) := ⟨_, hid_of rfl⟩
  rw [← HL.out] at HH hl
  obtain ⟨ha, HA⟩ : ∃ ha, Hid (ca a c f = ha) := ⟨_, hid_of rfl⟩
  rw [HA.out] at HH
  clear h hprd hpc0
  go_enter Try.func72, Try.ntmps72
  go_wp2_with fail
  refine HH.out.mono ?_
  rintro e w1 ⟨rfl, m1, rfl⟩
  go_wp2_with fail
  go_loopg [12, 5, 1] L (fun g s12 s5 s1 wx => ∃ (i left j : Nat) (pa : Option Addr) (pn pc : Nat), i ≤ L ∧ L ≤ i + g ∧ left ≤ i ∧ s12 = .int .i64 (i : Int) ∧ s5 = .int .i64 (left : Int) ∧ s1 = .slice pa pn pc ∧ pn ≤ pc ∧ Hid (pn = (ps.drop j).length ∧ ∃ M ys, Inv l ps i j left M ∧ DK F b a n c f ys M wx ∧ Base.Rd (fun k => ¬ F k) wx pa (ints (ps.drop j)) ∧ Fr F w wx))
  case atStart =>
    obtain ⟨k1, k2, k3⟩ := K0.out m1
    exact ⟨0, 0, 0, pa0, ps.length, pc0, by omega, by omega, by omega, rfl, rfl, rfl, k2, ⟨by simp, l, xs, Inv.start l ps, k1, k3.keep fun _ _ _ => rfl, (Fr.refl _ _).drewN m1⟩⟩
  case round =>
    obtain ⟨i, left, j, pa, pn, pc, hi, hg, hlf, rfl, rfl, rfl, hpc, R0⟩ := hrel
    by_cases hlt : i < L
    · obtain ⟨g', rfl⟩ : ∃ g', gk = g' + 1 := ⟨gk - 1, by omega⟩
      obtain ⟨hpn, M, ys, hv, k, hrd, fr⟩ := R0.out
      have hil : i < l.length := by rw [← HL.out]; exact hlt
      have k1 := k.fit
      have k2 := k.nc
      have hML := hv.len
      obtain ⟨g, rfl, hF, hyc, hr⟩ : ∃ g, a = some ⟨g, 0, none⟩ ∧ F g ∧ ys.length = c ∧ RowIs wr g ys := by
        rcases k.row with ⟨_, e⟩ | q
        · omega
        · exact q
      have hca : ca (some ⟨g, 0, none⟩) c f = some ⟨g, f, none⟩ := by rw [ca_some g 0 c f (by omega), Nat.zero_add]
      obtain rfl : some ⟨g, f, none⟩ = ha := by rw [← HA.out, hca]
      have cx : wr.cell? ⟨g, f + i, none⟩ = some (V l[i]) := by
        have := k.rd
        rw [hca] at this
        rcases this with e | ⟨g1, o1, e1, _, q⟩
        · rw [e] at hML; simp at hML; omega
        · cases e1
          exact q i _ (hv.at hil)
      obtain ⟨y, cy⟩ : ∃ y, wr.cell? ⟨g, f + left, none⟩ = some (V y) := ⟨_, by rw [hr.cell, List.getElem?_eq_getElem (by omega)]; rfl⟩
      have zy : wr.frozen? ⟨g, f + left, none⟩ = false := hr.frozen _
      have nb := k.ne hr
      by_cases hsk : ∃ rest, ps.drop j = i :: rest
      · obtain ⟨rest, hrest⟩ := hsk
        rw [hrest] at hpn hrd
        obtain ⟨gp, op, rfl, hnp, hcp⟩ : ∃ gp op, pa = some ⟨gp, op, none⟩ ∧ ¬ F gp ∧ ∀ t x, (ints (i :: rest))[t]? = some x → wr.cell? ⟨gp, op + t, none⟩ = some (Base.V x) := by
          rcases hrd with e | q
          · simp [ints] at e
          · exact q
        have cp : wr.cell? ⟨gp, op, none⟩ = some (.int .i64 (i : Int)) := hcp 0 _ rfl
        have hcut := Base.cut_lo (some ⟨gp, op, none⟩) pn pc 1 1 rfl (by rw [hpn]; simp)
        have hn0 : 0 < pn := by rw [hpn]; simp
        have hrs : ps.drop (j + 1) = rest := by
          have := congrArg (List.drop 1) hrest
          rw [List.drop_drop] at this
          exact this
        have HK := hid_of (show pn - 1 = (ps.drop (j + 1)).length ∧ ∃ M ys, Inv l ps (i + 1) (j + 1) left M ∧ DK F b (some ⟨g, 0, none⟩) n c f ys M wr ∧ Base.Rd (fun k => ¬ F k) wr (Base.ca (some ⟨gp, op, none⟩) pc 1) (ints (ps.drop (j + 1))) ∧ Fr F w wr from
          ⟨by rw [hpn, hrs]; simp, M, ys, hv.skip hil hrest rfl, k, by rw [hrs]; exact Base.Rd.drop hrd (by rw [ints_len, ← hpn]; exact hpc) 1, fr⟩)
        have gn : (0 : Int) < (pn : Int) := by omega
        generalize l[i] = x at *
        clear R0 hv k hrd fr hcp hrest hrs hpn k1 k2 hML hyc hr
        go_wp2_with fail
        go_roundg g'
        case measure => omega
        case rel => exact ⟨i + 1, left, j + 1, _, _, _, by omega, by omega, by omega, by simp, rfl, rfl, by omega, HK.out⟩
      · have hst : ps.drop j = [] ∨ ∃ p rest, ps.drop j = p :: rest ∧ i ≠ p := by
          cases hd : ps.drop j with
          | nil => exact .inl rfl
          | cons p rest => exact .inr ⟨p, rest, rfl, fun e => hsk ⟨rest, by rw [hd, e]⟩⟩
        have hv2 := hv.stay hil hst
        have hk2 : DK F b (some ⟨g, 0, none⟩) n c f (ys.set (f + left) l[i]) (M.set left l[i]) (wr.setCell ⟨g, f + left, none⟩ (V l[i])) := by
          refine ⟨?_, k.own, by rw [List.length_set]; exact k1, k2, k.lim, .inr ⟨g, rfl, hF, by rw [List.length_set]; exact hyc, hr.set _ _⟩, put_is k.is (by omega)⟩
          rw [set_ne nb, List.length_set]
          exact k.blk
        have HK := hid_of (show pn = (ps.drop j).length ∧ ∃ M ys, Inv l ps (i + 1) j (left + 1) M ∧ DK F b (some ⟨g, 0, none⟩) n c f ys M (wr.setCell ⟨g, f + left, none⟩ (V l[i])) ∧ Base.Rd (fun k => ¬ F k) (wr.setCell ⟨g, f + left, none⟩ (V l[i])) pa (ints (ps.drop j)) ∧ Fr F w (wr.setCell ⟨g, f + left, none⟩ (V l[i])) from
          ⟨hpn, _, _, hv2, hk2, hrd.keep fun t _ hn => set_ne (fun e => hn (by rw [e]; exact hF)) _, fr.trans (Fr.set (.inl hF) _)⟩)
        rcases hst with hd | ⟨p, rest, hd, ne⟩
        · have hn0 : pn = 0 := by rw [hpn, hd]; rfl
          have HN0 := hid_of hn0
          subst hn0
          generalize l[i] = x at *
          clear R0 hv k hrd fr hd hpn k1 k2 hML hyc hr hv2 hk2 hsk
          go_wp2_with fail
          go_roundg g'
          case measure => omega
          case rel => exact ⟨i + 1, left + 1, j, _, _, _, by omega, by omega, by omega, by simp, by simp, rfl, hpc, HK.out⟩
        · have hrd2 := hrd
          rw [hd] at hrd2
          obtain ⟨gp, op, rfl, hnp, hcp⟩ : ∃ gp op, pa = some ⟨gp, op, none⟩ ∧ ¬ F gp ∧ ∀ t x, (ints (p :: rest))[t]? = some x → wr.cell? ⟨gp, op + t, none⟩ = some (Base.V x) := by
            rcases hrd2 with e | q
            · simp [ints] at e
            · exact q
          have cp : wr.cell? ⟨gp, op, none⟩ = some (.int .i64 (p : Int)) := hcp 0 _ rfl
          have hn0 : 0 < pn := by rw [hpn, hd]; simp
          have gn : (0 : Int) < (pn : Int) := by omega
          have ge : ((i : Int) == (p : Int)) = false := by rw [beq_eq_false_iff_ne]; omega
          generalize l[i] = x at *
          clear R0 hv k hrd hrd2 fr hcp hd hpn k1 k2 hML hyc hr hv2 hk2 hsk
          go_wp2_with fail
          go_roundg g'
          case measure => omega
          case rel => exact ⟨i + 1, left + 1, j, _, _, _, by omega, by omega, by omega, by simp, by simp, rfl, hpc, HK.out⟩
    · obtain ⟨hpn, M, ys, hv, k, hrd, fr⟩ := R0.out
      have hiL : i = l.length := by rw [← HL.out]; omega
      rw [hiL] at hv
      have hMl := hv.len
      have hle := hv.le
      have HK := hid_of (keep_call ⟨_, _, _, _, _, k⟩ 0 left 0 (left : Int) rfl rfl (Nat.zero_le _) (by omega))
      have HV := hid_of (And.intro hv.fin fr)
      clear R0 hv k hrd fr hpn hMl hle hiL
      go_wp2_with fail
      refine HK.out.mono ?_
      rintro e w2 ⟨rfl, q2, f2⟩
      have E2 := hid_of (And.intro q2 f2)
      clear q2 f2
      go_wp2_with fail
      go_end0
      obtain ⟨q2, f2⟩ := E2.out
      obtain ⟨v1, v2⟩ := HV.out
      rw [List.drop_zero, Nat.sub_zero, v1] at q2
      refine ⟨rfl, q2.mono fun t _ e => ?_, v2.trans ⟨f2.os, f2.tape, f2.output, f2.size, fun t ht hn => f2.block t ht fun e => hn (.inl e)⟩⟩
      rcases e with e | e
      · exact .inl e
      · exact .inr (Nat.le_trans v2.size e)
end Go.Proofs.Ytdmjfmojacnbeaa.DropC
