/- Insert. PushFront. A list at a key: call.listAt of listcmd. A list is put at a key: call.put of listcmd. Words behind the first so many: cmd.part, cmd.behind. -/
import Derived.Test.YtpibeabokedpdaaGreatDoorDqSDropCM
import Derived.Test.YtpibeabokedpdaaGreatDoorDqSLayM
import Derived.Test.YtpibeabokedpdaaGreatDoorQAddM
import Derived.Deep.RegionWith
import Derived.Deep.RegionHeld3
section
namespace Go.Proofs.YtpibeabokedpdaaGreatDoor.DqSInsert
open Go.RowKit
open Go.Proofs.YtpibeabokedpdaaGreatDoor.DqSBase
open Go.Proofs.YtpibeabokedpdaaGreatDoor.DqBase (Fr Gr ptr hid_of lt_of set_at set_ne size_set row_ne size_row add_off bel_drewN ca ca_some ca_zero cell_lt)
open Go.Proofs.YtpibeabokedpdaaGreatDoor.DqSHeld
open Go.Proofs.YtpibeabokedpdaaGreatDoor.DqSLay
open Go.Proofs.YtpibeabokedpdaaGreatDoor.DqSFree
open Go.Proofs.YtpibeabokedpdaaGreatDoor.DqSKeep
open Go.Proofs.YtpibeabokedpdaaGreatDoor.DqSPlace
open Go.Proofs.YtpibeabokedpdaaGreatDoor.DqFindMath
open Go.Proofs.YtpibeabokedpdaaGreatDoor.DqSFind
open Go.Proofs.YtpibeabokedpdaaGreatDoor.DqFind (ints ints_len looked looked_le)
open Go.Proofs.YtpibeabokedpdaaGreatDoor.DqSFindA
open Go.Proofs.YtpibeabokedpdaaGreatDoor.DqSortC
set_option linter.unusedVariables false
set_option linter.unusedSimpArgs false
def insS (l : List El) (k : Nat) (v : El) : List El := l.take k ++ v :: l.drop k
theorem insS_len (l : List El) (k : Nat) (v : El) (h : k ≤ l.length) : (insS l k v).length = l.length + 1 := by simp [insS]; omega
/-- the row behind the copy and the store -/
theorem ins_is {xs l : List El} {f k : Nat} {y v : El} (h : (xs.drop f).take l.length = l) (hx : f + l.length < xs.length) (hk : k ≤ l.length) :
    (((lay xs (f + k + 1) (((l ++ [y]).drop k).take (l.length - k))).set (f + k) v).drop f).take (insS l k v).length = insS l k v := by
  have e0 : ((l ++ [y]).drop k).take (l.length - k) = l.drop k := by
    rw [List.drop_append_of_le_length hk, List.take_append_of_le_length (by simp), List.take_of_length_le (by simp)]
  rw [e0, insS_len _ _ _ hk]
  apply List.ext_getElem?
  intro t
  rw [List.getElem?_take]
  have hll : (lay xs (f + k + 1) (l.drop k)).length = xs.length := lay_len (by simp; omega)
  by_cases q : t < l.length + 1
  · rw [if_pos q, List.getElem?_drop]
    unfold insS
    by_cases q1 : t < k
    · rw [List.getElem?_set, if_neg (by omega), lay_before (by omega) (by omega), List.getElem?_append_left (by simp; omega), List.getElem?_take_of_lt q1]
      conv => rhs; rw [← h]
      rw [List.getElem?_take, if_pos (by omega), List.getElem?_drop]
    · rw [List.getElem?_append_right (by simp; omega), show (l.take k).length = k by simp; omega]
      by_cases q2 : t = k
      · subst q2
        rw [List.getElem?_set, if_pos rfl, if_pos (by omega)]; simp
      · obtain ⟨u, rfl⟩ : ∃ u, t = k + 1 + u := ⟨t - k - 1, by omega⟩
        rw [List.getElem?_set, if_neg (by omega), show k + 1 + u - k = u + 1 by omega, List.getElem?_cons_succ]
        unfold lay
        rw [List.append_assoc, List.getElem?_append_right (by simp; omega), show (xs.take (f + k + 1)).length = f + k + 1 by simp; omega, List.getElem?_append_left (by simp; omega)]
        congr 1
        omega
  · rw [if_neg q, List.getElem?_eq_none (by rw [insS_len _ _ _ hk]; omega)]
theorem one_more {F : Nat → Prop} {b : Nat} {a : Option Addr} {n c f : Nat} {xs l : List El} {w : World} (h : DK F b a n c f xs l w) (hn : f + l.length + 1 ≤ n) :
    ∃ y, DK F b a n c f xs (l ++ [y]) (w.setCell ⟨b, 2, none⟩ (.int .i64 ((f + l.length + 1 : Nat) : Int))) := by
  have h2 := h.nc
  rcases h.row with ⟨_, e⟩ | ⟨g, rfl, hF, hx, hr⟩
  · omega
  · refine ⟨xs[f + l.length]'(by omega), ⟨?_, h.own, by simp; omega, h.nc, h.lim, .inr ⟨g, rfl, hF, hx, (set_ne (Ne.symm (h.ne hr)) _).trans hr⟩, ?_⟩⟩
    · rw [set_at h.blk]
      simp [Nat.add_assoc]
    · rw [List.length_append, List.length_singleton, List.take_succ_eq_append_getElem (by simp; omega), h.is]
      simp
set_option maxHeartbeats 2000000 in
set_option maxRecDepth 100000 in
theorem insert_no {F : Nat → Prop} {b : Nat} {l : List El} {w : World} (h : DQ F b l w) (before : Bool) (p v : El) (hb : l.length * 16 ≤ 140737488355328) (hp : findN l p 1 false 1 l.length = []) :
    Calls Tryz.prog 73 #[ptr b, .bool before, V p, V v] w fun e w' => e = .returned (.int .i64 (-1)) ∧ DQ F b l w' ∧ Below w.heap.size w w' := by
  have hf := find_call h p 1 1 0 (by omega) (by omega) hb
  unfold findS at hf
  rw [if_neg (by decide), show looked l.length 0 = l.length from rfl, show Int.natAbs 1 = 1 from rfl, show decide ((1 : Int) < 0) = false from rfl, hp] at hf
  have HF := hid_of hf
  have HQ := hid_of h
  clear h hf hp
  go_enter Tryz.func73, Tryz.ntmps73
  go_wp2_with fail
  refine HF.out.mono ?_
  rintro e w1 ⟨v', rfl, n1, b1⟩
  obtain ⟨a1, k1, rfl, hk1, _⟩ := DqFree.NR.shape n1
  rw [show (ints []).length = 0 from rfl] at *
  have N1 := hid_of b1
  clear n1 b1
  go_wp2_with fail
  go_ret
  exact ⟨rfl, HQ.out.below N1.out, N1.out⟩
set_option maxHeartbeats 4000000 in
set_option maxRecDepth 100000 in
theorem insert_yes {F : Nat → Prop} {b : Nat} {l : List El} {w : World} (h : DQ F b l w) (before : Bool) (p v : El) (k : Nat) (hb : (3 * l.length + 2) * 16 ≤ 281474976710656) (hb2 : l.length * 16 ≤ 140737488355328) (hp : findN l p 1 false 1 l.length = [k]) (hk : k < l.length) :
    Calls Tryz.prog 73 #[ptr b, .bool before, V p, V v] w fun e w' => e = .returned (.int .i64 ((l.length + 1 : Nat) : Int)) ∧ DQ (Gr F w) b (insS l (if before then k else k + 1) v) w' ∧ Fr F w w' := by
  have hf := find_call h p 1 1 0 (by omega) (by omega) hb2
  unfold findS at hf
  rw [if_neg (by decide), show looked l.length 0 = l.length from rfl, show Int.natAbs 1 = 1 from rfl, show decide ((1 : Int) < 0) = false from rfl, hp] at hf
  have HF := hid_of hf
  have HQ := hid_of h.low
  have hl := lim_of h
  obtain ⟨at', HAT⟩ : ∃ at', Hid (at' = if before then k else k + 1) := ⟨_, hid_of rfl⟩
  rw [← HAT.out]
  have hat : at' ≤ l.length := by rw [HAT.out]; split <;> omega
  have HFree := hid_of (fun (w1 : World) (h1 : DQ (fun k => F k ∧ k < w.heap.size) b l w1) => free_call h1 0 1 0 1 rfl rfl (by omega))
  obtain ⟨L, HL⟩ : ∃ L, Hid (L = l.length) := ⟨_, hid_of rfl⟩
  rw [← HL.out] at hat hl hk ⊢
  have HB := hid_of hb
  clear h hf hp hb hb2
  have hcs : (before = true ∧ (k : Int) = (at' : Int)) ∨ (before = false ∧ (k : Int) + 1 = (at' : Int)) := by
    rw [HAT.out]
    cases before
    · exact .inr ⟨rfl, by simp⟩
    · exact .inl ⟨rfl, by simp⟩
  rcases hcs with ⟨rfl, eA⟩ | ⟨rfl, eA⟩
  all_goals
    go_enter Tryz.func73, Tryz.ntmps73
    go_wp2_with fail
    refine HF.out.mono ?_
    rintro e w1 ⟨v', rfl, n1, b1⟩
    obtain ⟨a1, k1, rfl, hk1, _⟩ := DqFree.NR.shape n1
    have s1 := n1.sl
    obtain ⟨g1, o1, rfl, _, hc1⟩ : ∃ g o, a1 = some ⟨g, o, none⟩ ∧ w.heap.size ≤ g ∧ ∀ j x, (ints [k])[j]? = some x → w1.cell? ⟨g, o + j, none⟩ = some (DqBase.V x) := by
      obtain ⟨a2, c2, e2, _, r2⟩ := s1
      cases e2
      rcases r2 with e | q
      · cases e
      · exact q
    have cf : w1.cell? ⟨g1, o1, none⟩ = some (.int .i64 (k : Int)) := hc1 0 _ rfl
    rw [show (ints [k]).length = 1 from rfl] at *
    have HFr1 := hid_of (HFree.out w1 (HQ.out.below b1))
    have N1 := hid_of b1
    clear n1 b1 s1 hc1
    go_wp2_with fail
    refine HFr1.out.mono ?_
    rintro e w2 ⟨rfl, ⟨a, n, c, f, xs, kk, _, hn⟩, f2⟩
    obtain ⟨t, HT⟩ : ∃ t, Hid (t = f + l.length) := ⟨_, hid_of rfl⟩
    have c2 : w2.cell? ⟨b, 2, none⟩ = some (.int .i64 (t : Int)) := by rw [HT.out]; exact kk.cell 2
    have z2 : w2.frozen? ⟨b, 2, none⟩ = false := kk.frozen 2
    have hnl := kk.lim
    have ht : t ≤ 35184372088832 := by rw [HT.out]; omega
    obtain ⟨y, k2⟩ := one_more kk hn
    rw [← HT.out] at k2
    have HH := hid_of (held_call k2)
    rw [List.length_append, ← HL.out] at HH
    have tI : ((t + 1 : Nat) : Int) = (t : Int) + 1 := by simp
    rw [tI] at HH k2
    have k2n := k2.nc
    have k2f := k2.fit
    rw [List.length_append, ← HL.out, List.length_singleton] at k2f
    rw [List.length_singleton] at HH
    obtain ⟨g, rfl, hF, hyc, hr⟩ : ∃ g, a = some ⟨g, 0, none⟩ ∧ Gr (fun k => F k ∧ k < w.heap.size) w1 g ∧ xs.length = c ∧ RowIs (w2.setCell ⟨b, 2, none⟩ (.int .i64 ((t : Int) + 1))) g xs := by
      rcases k2.row with ⟨_, e⟩ | q
      · omega
      · exact q
    have hca : ca (some ⟨g, 0, none⟩) c f = some ⟨g, f, none⟩ := by rw [ca_some g 0 c f (by omega), Nat.zero_add]
    rw [hca] at HH
    have hrd := k2.rd
    rw [hca] at hrd
    have nb := k2.ne hr
    have E2 := hid_of (And.intro kk (And.intro f2 (And.intro hn k2)))
    clear kk f2 hn k2
    go_wp2_with fail
    refine HH.out.mono ?_
    rintro e w3 ⟨rfl, m3, rfl⟩
    obtain ⟨W, HW⟩ : ∃ W, Hid ((w2.setCell ⟨b, 2, none⟩ (.int .i64 ((t : Int) + 1))).drewN m3 = W) := ⟨_, hid_of rfl⟩
    rw [HW.out]
    have hr1 : RowIs W g xs := by rw [← HW.out]; exact hr
    have hrd1 : Rd (Gr (fun k => F k ∧ k < w.heap.size) w1) W (some ⟨g, f, none⟩) (l ++ [y]) := by rw [← HW.out]; exact hrd.keep fun _ _ _ => rfl
    have hMl : (l ++ [y]).length = L + 1 := by rw [List.length_append, ← HL.out]; rfl
    have hdl : ((l ++ [y]).drop at').length = L + 1 - at' := by rw [List.length_drop, hMl]
    have hcut1 := cut_lo (some ⟨g, f, none⟩) (L + 1) (c - f) (at' + 1) ((at' : Int) + 1) (by simp) (by omega)
    rw [show L + 1 - (at' + 1) = L - at' by omega] at hcut1
    have hcut2 := cut_lo (some ⟨g, f, none⟩) (L + 1) (c - f) at' (at' : Int) rfl (by omega)
    have htl : (((l ++ [y]).drop at').take (L - at')).length = L - at' := by rw [List.length_take, hdl]; omega
    obtain ⟨W5, hcp, hr5, cs, hw5⟩ := copy_run (w := W.drewN 1) (d := ca (some ⟨g, f, none⟩) (c - f) (at' + 1)) (o := f + at' + 1) (dn := L - at') (dc := c - f - (at' + 1)) (sc := c - f - at') (hr1.drewN 1) ((hrd1.drop (c := c - f) (by omega) at').keep fun _ _ _ => rfl) (fun hp => by rw [htl] at hp; rw [ca_some _ _ _ _ (by omega)]; simp [Nat.add_assoc]) (by rw [htl]; omega)
    rw [hdl] at hcp
    have hcp1 : ∀ ty, (Builtin.copy_ #[22, 22] ty #[.slice (ca (some ⟨g, f, none⟩) (c - f) (at' + 1)) (L - at') (c - f - (at' + 1)), .slice (ca (some ⟨g, f, none⟩) (c - f) at') (L + 1 - at') (c - f - at')]).run Tryz.prog W.drew = .ok (goInt (((l ++ [y]).drop at').take (L - at')).length) W5 := hcp
    have cy : ∃ u, W5.cell? ⟨g, f + at', none⟩ = some (V u) := ⟨_, by rw [hr5.cell, List.getElem?_eq_getElem (by rw [lay_len (by rw [htl]; omega)]; omega)]; rfl⟩
    obtain ⟨u, cy⟩ := cy
    have zy : W5.frozen? ⟨g, f + at', none⟩ = false := hr5.frozen _
    have E5 := hid_of (And.intro hr5 hw5)
    have HX := hid_of (And.intro hyc (And.intro k2n k2f))
    clear hcp hr5 hw5 hr hrd hr1 hrd1 hdl htl hyc hMl
    go_wp2_with fail
    go_region
    all_goals
      go_wp2_with fail
      go_ret
      obtain ⟨kk, f2, hn, k2⟩ := E2.out
      obtain ⟨hr5, hw5⟩ := E5.out
      obtain ⟨hyc, k2n, k2f⟩ := HX.out
      have b1 := N1.out
      have hb5 : W5.heap[b]? = (w2.setCell ⟨b, 2, none⟩ (.int .i64 ((t : Int) + 1))).heap[b]? := by
        rw [hw5, row_ne nb, ← HW.out]; rfl
      have hst : L - at' = l.length - at' := by rw [HL.out]
      refine ⟨by first | rfl | simp, ⟨_, n, c, f, _, ⟨?_, ?_, ?_, k2n, k2.lim, .inr ⟨g, rfl, ?_, ?_, hr5.set _ _⟩, ?_⟩⟩, ?_⟩
      · rw [set_ne nb, hb5, k2.blk, insS_len _ _ _ (by rw [← HL.out]; exact hat)]
        simp
      · rcases k2.own with e | e
        · exact .inl e.1
        · exact .inr (Nat.le_trans b1.size e)
      · rw [insS_len _ _ _ (by rw [← HL.out]; exact hat), ← HL.out]; omega
      · rcases hF with e | e
        · exact .inl e.1
        · exact .inr (Nat.le_trans b1.size e)
      · rw [List.length_set, lay_len (by rw [List.length_take, List.length_drop, List.length_append, ← HL.out, List.length_singleton]; omega)]; exact hyc
      · rw [hst]
        exact ins_is kk.is (by rw [← HL.out]; omega) (by rw [← HL.out]; exact hat)
      · have fw : Fr F w w2 := (Fr.of_below b1).trans ⟨f2.os, f2.tape, f2.output, f2.size, fun j hj hn => f2.block j hj fun e => hn (.inl e.1)⟩
        have up : ∀ j, Gr (fun k => F k ∧ k < w.heap.size) w1 j → Gr F w j := fun j e => by
          rcases e with e | e
          · exact .inl e.1
          · exact .inr (Nat.le_trans b1.size e)
        have f4 : Fr F w W := by
          rw [← HW.out]
          exact (fw.trans (Fr.set (i := 2) (up _ k2.own) _)).drewN m3
        have f5 : Fr F w W5 := by
          rw [hw5]
          exact (f4.drewN 1).trans (Fr.row (up _ hF) _)
        exact f5.trans (Fr.set (up _ hF) _)
end Go.Proofs.YtpibeabokedpdaaGreatDoor.DqSInsert
end
section
namespace Go.Proofs.YtpibeabokedpdaaGreatDoor.DqSFront
open Go.RowKit
open Go.Proofs.YtpibeabokedpdaaGreatDoor.DqSBase
open Go.Proofs.YtpibeabokedpdaaGreatDoor.DqBase (Fr Gr ptr hid_of lt_of set_at set_ne size_set row_ne size_row add_off bel_drewN ca ca_some ca_zero cell_lt)
open Go.Proofs.YtpibeabokedpdaaGreatDoor.DqSHeld
open Go.Proofs.YtpibeabokedpdaaGreatDoor.DqSLay
open Go.Proofs.YtpibeabokedpdaaGreatDoor.DqSFree
open Go.Proofs.YtpibeabokedpdaaGreatDoor.DqSPush
set_option linter.unusedVariables false
set_option linter.unusedSimpArgs false
theorem front_is {xs L : List El} {p : Nat} {x : El} (hp : p < xs.length) (h : (xs.drop (p + 1)).take L.length = L) : ((xs.set p x).drop p).take (x :: L).length = x :: L := by
  have e : (xs.set p x).drop p = x :: xs.drop (p + 1) := by
    rw [List.drop_eq_getElem_cons (by simpa using hp), List.getElem_set_self, List.drop_set, if_pos (by omega)]
  rw [e, List.length_cons, List.take_succ_cons, h]
theorem push_step (m l : List El) (i : Nat) (h : i < m.length) : (m.take (i + 1)).reverse ++ l = m[i] :: ((m.take i).reverse ++ l) := by
  rw [List.take_succ_eq_append_getElem h, List.reverse_append, List.reverse_singleton, List.append_assoc]
  rfl
set_option maxHeartbeats 2000000 in
set_option maxRecDepth 100000 in
theorem pushFront_call {F : Nat → Prop} {b : Nat} {l m : List El} {v : Value} {w : World} (h : DQ F b l w) (hm : SL (fun k => ¬ F k) w v m) (hs : (2 * (m.length + l.length) + l.length) * 16 ≤ 281474976710656) :
    Calls Tryz.prog 161 #[ptr b, v] w fun e w' => e = .returned (.tuple #[]) ∧ DQ (Gr F w) b (m.reverse ++ l) w' ∧ Fr F w w' := by
  have HF := hid_of (free_call h m.length 0 (m.length : Int) 0 rfl rfl (by omega))
  obtain ⟨am, cm, rfl, hcm, hrm⟩ := hm
  have HM := hid_of hrm
  have bm : m.length ≤ 281474976710656 := by omega
  clear h hrm hcm hs
  go_enter Tryz.func161, Tryz.ntmps161
  go_wp2_with fail
  refine HF.out.mono ?_
  rintro e w1 ⟨rfl, ⟨a, n, c, f, xs, k, hx, hy⟩, fr⟩
  have hn : f ≤ 35184372088832 := by have := k.lim; have := k.fit; omega
  have K := hid_of (And.intro k fr)
  clear k fr hy
  go_wp2_with fail
  go_loopg [14] m.length (fun g s14 wx => ∃ (i : Nat) (ys : List El), i ≤ m.length ∧ m.length ≤ i + g ∧ s14 = .int .i64 i ∧ Hid (DK (Gr F w) b a n c (f - i) ys ((m.take i).reverse ++ l) wx ∧ Fr F w wx))
  case atStart => exact ⟨0, xs, by omega, by omega, rfl, K⟩
  case round =>
    obtain ⟨i, ys, hi, hg, rfl, R⟩ := hrel
    by_cases hlt : i < m.length
    · obtain ⟨g', rfl⟩ : ∃ g', gk = g' + 1 := ⟨gk - 1, by omega⟩
      obtain ⟨k, fr⟩ := R.out
      obtain ⟨p, hp⟩ : ∃ p, f - i = p + 1 := ⟨f - i - 1, by omega⟩
      rw [hp] at k
      obtain ⟨gm, om, rfl, hnG, hcm⟩ : ∃ gm om, am = some ⟨gm, om, none⟩ ∧ ¬ Gr F w gm ∧ ∀ j x, m[j]? = some x → wr.cell? ⟨gm, om + j, none⟩ = some (V x) := by
        rcases rd_fr HM.out fr with e | q
        · rw [e] at hlt; simp at hlt
        · exact q
      have cx : wr.cell? ⟨gm, om + i, none⟩ = some (V m[i]) := hcm i _ (List.getElem?_eq_getElem hlt)
      have k1 := k.fit
      have k2 := k.nc
      obtain ⟨g, rfl, hF, hyc, hr⟩ : ∃ g, a = some ⟨g, 0, none⟩ ∧ Gr F w g ∧ ys.length = c ∧ RowIs wr g ys := by
        rcases k.row with ⟨_, e⟩ | q
        · omega
        · exact q
      have nbg := k.ne hr
      have nmb : gm ≠ b := fun e => hnG (by rw [e]; exact k.own)
      have c0 : wr.cell? ⟨b, 0, none⟩ = some (.slice (some ⟨g, 0, none⟩) n c) := k.cell 0
      have c1 : wr.cell? ⟨b, 1, none⟩ = some (.int .i64 ((p + 1 : Nat) : Int)) := k.cell 1
      have z1 : wr.frozen? ⟨b, 1, none⟩ = false := k.frozen 1
      have hpn : p < n := by omega
      have cp : wr.cell? ⟨g, p, none⟩ = some (V ys[p]) := by rw [hr.cell, List.getElem?_eq_getElem (by omega)]; rfl
      have zp : wr.frozen? ⟨g, p, none⟩ = false := hr.frozen p
      have HK := hid_of (show DK (Gr F w) b (some ⟨g, 0, none⟩) n c (f - (i + 1)) (ys.set p m[i]) ((m.take (i + 1)).reverse ++ l) ((wr.setCell ⟨b, 1, none⟩ (.int .i64 (p : Int))).setCell ⟨g, p, none⟩ (V m[i])) by
        rw [push_step m l i hlt, show f - (i + 1) = p by omega]
        refine ⟨?_, k.own, by rw [List.length_cons]; omega, k.nc, k.lim, .inr ⟨g, rfl, hF, by rw [List.length_set]; exact hyc, ?_⟩, front_is (by omega) k.is⟩
        · rw [set_ne nbg, set_at k.blk]
          simp [Nat.add_assoc, Nat.add_comm, Nat.add_left_comm]
        · exact RowIs.set ((set_ne (Ne.symm nbg) _).trans hr) p m[i])
      have HFr := hid_of (show Fr F w ((wr.setCell ⟨b, 1, none⟩ (.int .i64 (p : Int))).setCell ⟨g, p, none⟩ (V m[i])) from (fr.trans (Fr.set k.own _)).trans (Fr.set hF _))
      have pI : ((p + 1 : Nat) : Int) = (p : Int) + 1 := by simp
      rw [pI] at c1
      have hpb : p ≤ 35184372088832 := by omega
      obtain ⟨W1, HW1⟩ : ∃ W1, Hid (wr.setCell ⟨b, 1, none⟩ (.int .i64 (p : Int)) = W1) := ⟨_, hid_of rfl⟩
      have d0 : W1.cell? ⟨b, 0, none⟩ = some (.slice (some ⟨g, 0, none⟩) n c) := by rw [← HW1.out, World.cell?_setCell_other _ _ _ _ (by simp)]; exact c0
      have d1 : W1.cell? ⟨b, 1, none⟩ = some (.int .i64 (p : Int)) := by rw [← HW1.out]; exact World.cell?_setCell_same _ _ _ c1
      have dp : W1.cell? ⟨g, p, none⟩ = some (V ys[p]) := by rw [← HW1.out, World.cell?_setCell_other _ _ _ _ (by simp [Ne.symm nbg])]; exact cp
      have yp : W1.frozen? ⟨g, p, none⟩ = false := by rw [← HW1.out, World.frozen?_setCell]; exact zp
      rw [HW1.out] at HK HFr
      clear cp zp
      generalize m[i] = x at *
      generalize ys[p] = y at *
      clear R k fr hr hcm hnG hp k1 k2 hyc pI
      go_wp2_with fail
      rw [HW1.out]
      clear c0 c1 z1 cx HW1
      go_region
      all_goals
        go_wp2_with fail
        go_roundg g'
        case measure => omega
        case rel => exact ⟨i + 1, _, by omega, by omega, by simp, DK.drewN HK.out 1, HFr.out.drew⟩
    · have hi2 : i = m.length := by omega
      subst hi2
      have HK := hid_of R.out
      rw [List.take_of_length_le (Nat.le_refl _)] at HK
      clear R
      go_wp2_with fail
      go_end0
      exact ⟨rfl, ⟨_, _, _, _, _, HK.out.1⟩, HK.out.2⟩
end Go.Proofs.YtpibeabokedpdaaGreatDoor.DqSFront
end
section
namespace Go.Proofs.YtpibeabokedpdaaGreatDoor.LAt
open Go.RowKit Go.Maps
open Go.Proofs.YtpibeabokedpdaaGreatDoor.SpaceMath (wout withL lkp keys Ris toD)
open Go.Proofs.YtpibeabokedpdaaGreatDoor.ValueMath (Vl chk small)
open Go.Proofs.YtpibeabokedpdaaGreatDoor.Base (mk mk_list mk_size Gr hid_of SL)
open Go.Proofs.YtpibeabokedpdaaGreatDoor.Turn
open Go.Proofs.YtpibeabokedpdaaGreatDoor.Vals
open Go.Proofs.YtpibeabokedpdaaGreatDoor.SBase
open Go.Proofs.YtpibeabokedpdaaGreatDoor.SFind
open Go.Proofs.YtpibeabokedpdaaGreatDoor.SPut (vO)
open Go.Proofs.YtpibeabokedpdaaGreatDoor.QBase
open Go.Proofs.YtpibeabokedpdaaGreatDoor.LCmd
open Go.Proofs.YtpibeabokedpdaaGreatDoor.DqSBase (DQ)
set_option linter.unusedVariables false
set_option linter.unusedSimpArgs false
abbrev wrongB : ByteArray := ⟨#[87, 82, 79, 78, 71, 84, 89, 80, 69, 32, 116, 104, 101, 32, 107, 101, 121, 32, 104, 111, 108, 100, 115, 32, 97, 110, 111, 116, 104, 101, 114, 32, 107, 105, 110, 100, 32, 111, 102, 32, 118, 97, 108, 117, 101]⟩
theorem sl_mk {G : Nat → Prop} {w : World} {v : Value} {l : List Bs} (h : Base.SL G w v l) : DqSBase.SL G w v (l.map mk) := by
  obtain ⟨a, c, rfl, hc, hr⟩ := h
  refine ⟨a, c, by rw [List.length_map], by rw [List.length_map]; exact hc, ?_⟩
  rcases hr with rfl | ⟨g, o, rfl, hG, hq⟩
  · exact .inl rfl
  · refine .inr ⟨g, o, rfl, hG, fun j x hx => ?_⟩
    rw [List.getElem?_map] at hx
    obtain ⟨y, hy, rfl⟩ := Option.map_eq_some_iff.1 hx
    exact hq j y hy
section
variable {F X : Nat → Prop} {b : Nat} {w : World} {S : Sp}
set_option maxHeartbeats 2000000 in
set_option maxRecDepth 100000 in
theorem listAt_none (h : SP F X b w S) (k : Bs) (hk : k.length ≤ 281474976710656) (now : Int) (a : Option Addr) (n c : Nat) (hg : gt S now k = none) :
    Calls Tryz.prog 66 #[cV b now a n c, .string (mk k)] w fun e w' => (∃ d, e = .returned (.tuple #[ptr d, .string ⟨#[]⟩]) ∧ DQ (fun q => w.heap.size ≤ q) d [] w') ∧ Below w.heap.size w w' := by
  obtain ⟨W, hW⟩ : ∃ W, W = w.alloc (cO b now a n c) := ⟨_, rfl⟩
  have bW : Below w.heap.size w W := by rw [hW]; exact alb _ _
  have HB := hid_of bW
  have HW := hid_of hW
  have H1 := hid_of (get_no (h.below bW) k hk now hg)
  have H2 := hid_of fun (V : World) => DqSFree.of_call (DqSBase.SL.nil (fun _ => True) V) (by decide)
  clear hW bW h hg
  go_enter Tryz.func66, Tryz.ntmps66
  go_wp2_with fail
  rw [← HW.out]
  refine H1.out.mono ?_
  rintro e w1 ⟨rfl, b1⟩
  have B1 := FRow.bel HB.out b1 (Nat.le_refl _)
  have B2 := hid_of (FRow.bel B1 (alb w1 (vO 0 ⟨#[]⟩ (.slice none 0 0) (.slice none 0 0) (.slice none 0 0))) (Nat.le_refl _))
  clear b1 B1 H1
  go_wp2_with fail
  refine (H2.out _).mono ?_
  rintro e w3 ⟨d, rfl, q3, b3⟩
  have Q3 := hid_of q3
  have B3 := hid_of (FRow.bel B2.out b3 (Nat.le_refl _))
  have HS := hid_of B2.out.size
  clear q3 b3 H2
  go_wp2_with fail
  go_ret2
  exact ⟨⟨d, rfl, Q3.out.mono fun k _ e => Nat.le_trans HS.out e⟩, B3.out⟩
set_option maxHeartbeats 2000000 in
set_option maxRecDepth 100000 in
theorem listAt_wrong (h : SP F X b w S) (k : Bs) (hk : k.length ≤ 281474976710656) (now : Int) (a : Option Addr) (n c : Nat) {en : En} (hg : gt S now k = some en) (hk2 : en.val.kind ≠ 2) :
    Calls Tryz.prog 66 #[cV b now a n c, .string (mk k)] w fun e w' => e = .returned (.tuple #[.pointer none, .string wrongB]) ∧ Below w.heap.size w w' := by
  obtain ⟨W, hW⟩ : ∃ W, W = w.alloc (cO b now a n c) := ⟨_, rfl⟩
  have bW : Below w.heap.size w W := by rw [hW]; exact alb _ _
  have HB := hid_of bW
  have HW := hid_of hW
  have H1 := hid_of (get_yes (h.below bW) k hk now hg)
  have e1 : (en.val.kind != 2) = true := by simp [hk2]
  clear hW bW h hg hk2
  go_enter Tryz.func66, Tryz.ntmps66
  go_wp2_with fail
  rw [← HW.out]
  refine H1.out.mono ?_
  rintro e w1 ⟨u, rfl, hu, b1⟩
  obtain ⟨a1, n1, c1, a2, n2, c2, a3, n3, c3, rfl⟩ := vn_form hu
  have B1 := FRow.bel HB.out b1 (Nat.le_refl _)
  have B2 := hid_of (FRow.bel B1 (alb w1 (vO en.val.kind (mk en.val.text) (.slice a1 n1 c1) (.slice a2 n2 c2) (.slice a3 n3 c3))) (Nat.le_refl _))
  clear b1 B1 H1 hu
  go_wp2_with fail
  go_ret2
  exact ⟨rfl, B2.out⟩
set_option maxHeartbeats 2000000 in
set_option maxRecDepth 100000 in
theorem listAt_yes (h : SP F X b w S) (k : Bs) (hk : k.length ≤ 281474976710656) (now : Int) (a : Option Addr) (n c : Nat) {en : En} (hg : gt S now k = some en) (hk2 : en.val.kind = 2) (hf : en.val.list.length * 16 ≤ 140737488355328) :
    Calls Tryz.prog 66 #[cV b now a n c, .string (mk k)] w fun e w' => (∃ d, e = .returned (.tuple #[ptr d, .string ⟨#[]⟩]) ∧ DQ (fun q => w.heap.size ≤ q) d (en.val.list.map mk) w') ∧ Below w.heap.size w w' := by
  obtain ⟨W, hW⟩ : ∃ W, W = w.alloc (cO b now a n c) := ⟨_, rfl⟩
  have bW : Below w.heap.size w W := by rw [hW]; exact alb _ _
  have HB := hid_of bW
  have HW := hid_of hW
  have H1 := hid_of (get_yes (h.below bW) k hk now hg)
  have e1 : (en.val.kind != 2) = false := by simp [hk2]
  have HF : Hid ((en.val.list.map mk).length * 16 ≤ 140737488355328) := hid_of (by rw [List.length_map]; exact hf)
  clear hW bW h hg hk2 hf
  go_enter Tryz.func66, Tryz.ntmps66
  go_wp2_with fail
  rw [← HW.out]
  refine H1.out.mono ?_
  rintro e w1 ⟨u, rfl, hu, b1⟩
  obtain ⟨u1, u2, u3, rfl, hl, h2, h3⟩ := hu
  have hsl := sl_mk hl.sl
  obtain ⟨a1, c1, rfl, _⟩ := hl.shape
  obtain ⟨a2, c2, rfl⟩ := shapeFRow h2
  obtain ⟨a3, c3, rfl⟩ := shapeERow h3
  have B1 := FRow.bel HB.out b1 (Nat.le_refl _)
  have bb := alb w1 (vO en.val.kind (mk en.val.text) (.slice a1 en.val.list.length c1) (.slice a2 en.val.fields.length c2) (.slice a3 en.val.ranked.length c3))
  have B2 := hid_of (FRow.bel B1 bb (Nat.le_refl _))
  have H2 := hid_of (DqSFree.of_call (hsl.below bb) HF.out)
  clear b1 B1 H1 hl h2 h3 hsl bb
  go_wp2_with fail
  refine H2.out.mono ?_
  rintro e w3 ⟨d, rfl, q3, b3⟩
  have Q3 := hid_of q3
  have B3 := hid_of (FRow.bel B2.out b3 (Nat.le_refl _))
  have HS := hid_of B2.out.size
  clear q3 b3 H2
  go_wp2_with fail
  go_ret2
  exact ⟨⟨d, rfl, Q3.out.mono fun k _ e => Nat.le_trans HS.out e⟩, B3.out⟩
end
end Go.Proofs.YtpibeabokedpdaaGreatDoor.LAt
end
section
namespace Go.Proofs.YtpibeabokedpdaaGreatDoor.LPut
open Go.RowKit Go.Maps
open Go.Proofs.YtpibeabokedpdaaGreatDoor.SpaceMath (wout withL lkp keys Ris toD)
open Go.Proofs.YtpibeabokedpdaaGreatDoor.ValueMath (Vl chk small)
open Go.Proofs.YtpibeabokedpdaaGreatDoor.Base (mk mk_list mk_size Gr hid_of SL)
open Go.Proofs.YtpibeabokedpdaaGreatDoor.Turn
open Go.Proofs.YtpibeabokedpdaaGreatDoor.Vals
open Go.Proofs.YtpibeabokedpdaaGreatDoor.Check0 (Wel)
open Go.Proofs.YtpibeabokedpdaaGreatDoor.SBase
open Go.Proofs.YtpibeabokedpdaaGreatDoor.SFind
open Go.Proofs.YtpibeabokedpdaaGreatDoor.SPut (vO)
open Go.Proofs.YtpibeabokedpdaaGreatDoor.QBase
open Go.Proofs.YtpibeabokedpdaaGreatDoor.LCmd
open Go.Proofs.YtpibeabokedpdaaGreatDoor.DqSBase (DQ)
set_option linter.unusedVariables false
set_option linter.unusedSimpArgs false
def lV (l : List Bs) : Vl := ⟨2, [], l, [], []⟩
def pL (S : Sp) (k : Bs) (l : List Bs) (d : Int) : Sp := ⟨withL S.l k ⟨lV l, d, S.cnt + 1⟩, S.cnt + 1, none⟩
theorem chk_l {l : List Bs} (h0 : 0 < l.length) (h : ∀ t ∈ l, t.length ≤ 1048576) : chk (lV l) = 0 := by
  unfold chk ValueMath.stray ValueMath.mayBe ValueMath.lOk ValueMath.tOk lV
  have : (l.all fun t => decide (t.length ≤ 1048576)) = true := List.all_eq_true.2 fun t ht => by simpa using h t ht
  simp [this, h0]
theorem small_l {l : List Bs} (h : l.length * 16 ≤ 68719476735) : small (lV l) := by unfold small lV; simp; omega
theorem wel_l {l : List Bs} (h : l.length * 16 ≤ 68719476735) (ht : ∀ t ∈ l, t.length ≤ 1048576) : Wel (lV l) := Dec.wel_of (small_l h) ⟨by show ([] : Bs).length < _; simp, fun y hy => by have := ht y hy; omega, fun y hy => by simp [lV] at hy, fun y hy => by simp [lV] at hy⟩
theorem sl_km {B : Nat} {w : World} {v : Value} {l : List Bs} (h : DqSBase.NR B w v (l.map mk)) : Base.SL TT w v l := by
  obtain ⟨a, c, e, hc, hr⟩ := h.sl
  rw [List.length_map] at e hc
  refine ⟨a, c, e, hc, ?_⟩
  rcases hr with e0 | ⟨g, o, e1, hG, hq⟩
  · exact .inl (List.map_eq_nil_iff.1 e0)
  · exact .inr ⟨g, o, e1, trivial, fun j x hx => hq j (mk x) (by rw [List.getElem?_map, hx]; rfl)⟩
theorem va_l {B : Nat} {w : World} {v : Value} {l : List Bs} (h : DqSBase.NR B w v (l.map mk)) : VA w (.agg #[.int .i64 2, .string ⟨#[]⟩, v, .slice none 0 0, .slice none 0 0]) (lV l) := ⟨_, _, _, rfl, sl_km h, FRow.fs_row (FRow.or_nil 0 _), ERow.fs_row (ERow.or_nil 0 _)⟩
section
variable {F X : Nat → Prop} {b : Nat} {w : World} {S : Sp}
theorem due_bd (h : SP F X b w S) (k : Bs) (now : Int) : 0 ≤ dueV S now k ∧ dueV S now k ≤ 9007199254740992 := by
  unfold dueV
  cases hg : gt S now k with
  | none => simp
  | some e =>
    obtain ⟨FI, bm, bi, mv, L, s, h⟩ := h
    have he := h.ent k
    rw [(gt_some hg).1] at he
    cases q : lkp L k with
    | none => rw [q] at he; exact absurd he (by simp [Two])
    | some v =>
      rw [q] at he
      exact EnAt.due he
set_option maxHeartbeats 4000000 in
set_option maxRecDepth 100000 in
theorem put_yes (h : SP F X b w S) (hr : Room S) (k : Bs) (hk : k.length ≤ 281474976710656) {G : Nat → Prop} {d : Nat} {l : List Bs} (hq : DQ G d (l.map mk) w) (h0 : 0 < l.length) (hb : l.length * 16 ≤ 68719476735) (ht : ∀ t ∈ l, t.length ≤ 1048576) (now : Int) (a : Option Addr) (n c : Nat) (rk : Int) (rT : ByteArray) (rn : Int) (la : Option Addr) (ln lc : Nat) :
    Calls Tryz.prog 74 #[cV b now a n c, .string (mk k), ptr d, .agg #[.int .i64 rk, .string rT, .int .i64 rn, .slice la ln lc]] w fun e w' => e = .returned (.agg #[.int .i64 rk, .string rT, .int .i64 rn, .slice la ln lc]) ∧ Dn F X b w w' (pL S k l (dueV S now k)) := by
  obtain ⟨W, hW⟩ : ∃ W, W = ((w.alloc (cO b now a n c)).alloc (rO rk rT rn (.slice la ln lc))).alloc (rO 0 ⟨#[]⟩ 0 (.slice none 0 0)) := ⟨_, rfl⟩
  obtain ⟨bW, x0, x1, x2, sW⟩ := three_boxes w (cO b now a n c) (rO rk rT rn (.slice la ln lc)) (rO 0 ⟨#[]⟩ 0 (.slice none 0 0))
  rw [← hW] at bW x0 x1 x2 sW
  have H1 := hid_of (DqSHeld.len_call (hq.below bW))
  rw [List.length_map] at H1
  have gz : ((l.length : Int) == 0) = false := beq_false_of_ne (by omega)
  have HSP := hid_of (sp_wide h bW)
  have H2 := hid_of fun (V : World) (hV : Below W.heap.size W V) => due_call (HSP.out.below hV) k hk now
  have H3 := hid_of fun (V : World) (hV : Below W.heap.size W V) => DqSFree.list_call ((hq.below bW).below hV) (by rw [List.length_map]; omega)
  have hdb := due_bd h k now
  have H4 := hid_of fun (V : World) (hV : Below W.heap.size W V) (B : Nat) (v : Value) (hv : DqSBase.NR B V v (l.map mk)) => SPut.put_ok (HSP.out.below hV) hr.m hr.c hr.n k hk (va_l hv) (wel_l hb ht) (small_l hb) (chk_l h0 ht) (dueV S now k) hdb
  have HH := hid_of h
  have HB := hid_of bW
  have HC := hid_of x0
  have HX1 := hid_of x1
  have HX2 := hid_of x2
  have HSW := hid_of sW
  have HW := hid_of hW
  unfold pL
  clear hW bW x0 x1 x2 sW h hq h0 hb ht hk hdb HSP
  generalize dueV S now k = D at *
  generalize (gt S now k).isSome = Q at *
  go_enter Tryz.func74, Tryz.ntmps74
  go_wp2_with fail
  rw [← HW.out]
  refine H1.out.mono ?_
  rintro e w1 ⟨rfl, m1, hm⟩
  have b1 : Below W.heap.size W w1 := by rw [hm]; exact DqBase.bel_drewN W m1
  have B1 := hid_of b1
  have c1 := (b1.block _ (lt_of HC.out)).trans HC.out
  have cc1 : w1.cell? ⟨w.heap.size, 0, none⟩ = some (ptr b) := Lib.cell_of_heap c1 0
  have cc2 : w1.cell? ⟨w.heap.size, 1, none⟩ = some (.int .i64 now) := Lib.cell_of_heap c1 1
  unfold ptr at cc1
  clear b1 c1 hm H1
  go_wp2_with fail
  refine (H2.out _ B1.out).mono ?_
  rintro e w2 ⟨rfl, b2⟩
  have B2 := hid_of (FRow.bel B1.out b2 (Nat.le_refl _))
  have c1 := (B2.out.block _ (lt_of HC.out)).trans HC.out
  have cc3 : w2.cell? ⟨w.heap.size, 0, none⟩ = some (ptr b) := Lib.cell_of_heap c1 0
  unfold ptr at cc3
  clear b2 c1 H2 cc1 cc2
  have k0 : w.heap.size < w2.heap.size := Nat.lt_of_lt_of_le (lt_of HC.out) B2.out.size
  have s0 : w2.drew.cell? ⟨w.heap.size, 0, none⟩ = some (.pointer (some ⟨b, 0, none⟩)) := cc3
  have BD := hid_of (FRow.bel B2.out (Below.refl _ w2).drew (Nat.le_refl _))
  have t1 : LCmd.Tmp w W (w.heap.size + 1) := ⟨by omega, by rw [HSW.out]; omega⟩
  have t0 : LCmd.Tmp w W w.heap.size := ⟨Nat.le_refl _, by rw [HSW.out]; omega⟩
  have t2 : LCmd.Tmp w W (w.heap.size + 2) := ⟨by omega, by rw [HSW.out]; omega⟩
  go_wp2_with fail
  go_region_held3 (fun V => V.cell? ⟨w.heap.size, 0, none⟩ = some (.pointer (some ⟨b, 0, none⟩))) (first | with_reducible exact s0 | with_reducible exact s1 | with_reducible exact s2) (first
    | (go_at_call 124; refine (H3.out _ BD.out).mono ?_; rintro e w3 ⟨v3, rfl, hv3, b3⟩; have B3 := hid_of (FRow.bel BD.out b3 (Nat.le_refl _)); have s1 : w3.cell? ⟨w.heap.size, 0, none⟩ = some (.pointer (some ⟨b, 0, none⟩)) := (b3.cell (p := ⟨w.heap.size, 0, none⟩) k0).trans s0; obtain ⟨a3, c3, hv, _⟩ := DqSFree.NR.shape hv3; rw [List.length_map] at hv; subst hv; have NV := hid_of hv3; clear hv3 b3)
    | (go_at_call 24; refine (H4.out _ B3.out _ _ NV.out).mono ?_; rintro e w4 ⟨rfl, d4⟩; have D4 := hid_of (SDrop.dn_after B3.out d4); have z1 := (dn_block HH.out HB.out D4.out t1).trans HX1.out; have z2 := (dn_block HH.out HB.out D4.out t2).trans HX2.out; have Z2 := hid_of z2; obtain ⟨⟨y0, y1, y2, y3⟩, fy⟩ := box4 z1; have fy0 := fy 0; have fy1 := fy 1; have fy2 := fy 2; have fy3 := fy 3; obtain ⟨⟨v0, v1, v2, v3⟩, fv⟩ := box4 z2; have fv0 := fv 0; have fv1 := fv 1; have fv2 := fv 2; have fv3 := fv 3; have s2 : w4.cell? ⟨w.heap.size, 0, none⟩ = some (.pointer (some ⟨b, 0, none⟩)) := Lib.cell_of_heap ((dn_block HH.out HB.out D4.out t0).trans HC.out) 0; clear fy fv z1 z2 d4))
  go_wp2_with fail
  have hz := fin4_at Z2.out (.int .i64 rk) (.string rT) (.int .i64 rn) (.slice la ln lc)
  have hdn := dn_tmp HH.out HB.out D4.out (ev_fin4 t2 (.int .i64 rk) (.string rT) (.int .i64 rn) (.slice la ln lc))
  unfold fin4 at hz hdn
  obtain ⟨⟨g0, g1, g2, g3⟩, -⟩ := box4 hz
  exact bodyPost_ret (v := .agg #[.int .i64 rk, .string rT, .int .i64 rn, .slice la ln lc]) (by simp [results, Tryz.results74, go_sem, g0, g1, g2, g3]) rfl ⟨rfl, hdn⟩
set_option maxHeartbeats 4000000 in
set_option maxRecDepth 100000 in
theorem put_drop (h : SP F X b w S) (hr : Room S) (k : Bs) (hk : k.length ≤ 281474976710656) {en : En} (he : lkp S.l k = some en) {G : Nat → Prop} {d : Nat} (hq : DQ G d [] w) (now : Int) (a : Option Addr) (n c : Nat) (rk : Int) (rT : ByteArray) (rn : Int) (la : Option Addr) (ln lc : Nat) :
    Calls Tryz.prog 74 #[cV b now a n c, .string (mk k), ptr d, .agg #[.int .i64 rk, .string rT, .int .i64 rn, .slice la ln lc]] w fun e w' => e = .returned (.agg #[.int .i64 rk, .string rT, .int .i64 rn, .slice la ln lc]) ∧ Dn F X b w w' ⟨wout S.l k, S.cnt + 1, none⟩ := by
  obtain ⟨W, hW⟩ : ∃ W, W = ((w.alloc (cO b now a n c)).alloc (rO rk rT rn (.slice la ln lc))).alloc (rO 0 ⟨#[]⟩ 0 (.slice none 0 0)) := ⟨_, rfl⟩
  obtain ⟨bW, x0, x1, x2, sW⟩ := three_boxes w (cO b now a n c) (rO rk rT rn (.slice la ln lc)) (rO 0 ⟨#[]⟩ 0 (.slice none 0 0))
  rw [← hW] at bW x0 x1 x2 sW
  have H1 := hid_of (DqSHeld.len_call (hq.below bW))
  rw [List.length_nil, show ((0 : Nat) : Int) = 0 from rfl] at H1
  have HSP := hid_of (sp_wide h bW)
  have H4 := hid_of fun (V : World) (hV : Below W.heap.size W V) => SDrop.drop_yes (HSP.out.below hV) hr.m hr.c k hk he
  have HH := hid_of h
  have HB := hid_of bW
  have HC := hid_of x0
  have HX1 := hid_of x1
  have HX2 := hid_of x2
  have HSW := hid_of sW
  have HW := hid_of hW
  clear hW bW x0 x1 x2 sW h hq hk HSP he
  generalize wout S.l k = L' at *
  go_enter Tryz.func74, Tryz.ntmps74
  go_wp2_with fail
  rw [← HW.out]
  refine H1.out.mono ?_
  rintro e w1 ⟨rfl, m1, hm⟩
  have b1 : Below W.heap.size W w1 := by rw [hm]; exact DqBase.bel_drewN W m1
  have B1 := hid_of b1
  have c1 := (b1.block _ (lt_of HC.out)).trans HC.out
  have cc1 : w1.cell? ⟨w.heap.size, 0, none⟩ = some (ptr b) := Lib.cell_of_heap c1 0
  unfold ptr at cc1
  clear b1 c1 hm H1
  have t1 : LCmd.Tmp w W (w.heap.size + 1) := ⟨by omega, by rw [HSW.out]; omega⟩
  have t2 : LCmd.Tmp w W (w.heap.size + 2) := ⟨by omega, by rw [HSW.out]; omega⟩
  go_wp2_with fail
  refine (H4.out _ B1.out).mono ?_
  rintro e w4 ⟨rfl, d4⟩
  have D4 := hid_of (SDrop.dn_after B1.out d4)
  have z1 := (dn_block HH.out HB.out D4.out t1).trans HX1.out
  have z2 := (dn_block HH.out HB.out D4.out t2).trans HX2.out
  have Z2 := hid_of z2
  obtain ⟨⟨y0, y1, y2, y3⟩, fy⟩ := box4 z1
  have fy0 := fy 0; have fy1 := fy 1; have fy2 := fy 2; have fy3 := fy 3
  obtain ⟨⟨v0, v1, v2, v3⟩, fv⟩ := box4 z2
  have fv0 := fv 0; have fv1 := fv 1; have fv2 := fv 2; have fv3 := fv 3
  clear fy fv z1 z2 d4
  go_wp2_with fail
  have hz := fin4_at Z2.out (.int .i64 rk) (.string rT) (.int .i64 rn) (.slice la ln lc)
  have hdn := dn_tmp HH.out HB.out D4.out (ev_fin4 t2 (.int .i64 rk) (.string rT) (.int .i64 rn) (.slice la ln lc))
  unfold fin4 at hz hdn
  obtain ⟨⟨g0, g1, g2, g3⟩, -⟩ := box4 hz
  exact bodyPost_ret (v := .agg #[.int .i64 rk, .string rT, .int .i64 rn, .slice la ln lc]) (by simp [results, Tryz.results74, go_sem, g0, g1, g2, g3]) rfl ⟨rfl, hdn⟩
end
end Go.Proofs.YtpibeabokedpdaaGreatDoor.LPut
end
section
namespace Go.Proofs.YtpibeabokedpdaaGreatDoor.LCut
open Go.RowKit Go.Maps
open Go.Proofs.YtpibeabokedpdaaGreatDoor.Base (mk mk_list mk_size Gr hid_of SL ca)
open Go.Proofs.YtpibeabokedpdaaGreatDoor.LCmd
set_option linter.unusedVariables false
set_option linter.unusedSimpArgs false
theorem cut3 (a : Option Addr) (n c i j : Nat) (x y : Int) (hx : x = i) (hy : y = j) (hij : i ≤ j) (hj : j ≤ c) (w : World) :
    (Instr.slice 22 (.slice a n c) (some (.int .i64 x)) (some (.int .i64 y)) (some (.int .i64 y))).run Tryz.prog w = .ok (.slice (ca a j i) (j - i) (j - i)) w := by
  subst hx; subst hy
  have h1 : (i : Int) ≤ j := by omega
  have h2 : (j : Int) ≤ c := by omega
  simp [Instr.slice, run_underlying Tryz.underlying22, Instr.sliceBounds, run_sliceBound, Base.size9, ca, h1, h2]
set_option maxRecDepth 100000 in
theorem part_call (a : Option Addr) (n c i j : Nat) (x y : Int) (hx : x = i) (hy : y = j) (hij : i ≤ j) (hj : j ≤ c) (w : World) :
    Calls Tryz.prog 48 #[.slice a n c, .int .i64 x, .int .i64 y] w fun e w' => e = .returned (.slice (ca a j i) (j - i) (j - i)) ∧ w' = w := by
  have H := cut3 a n c i j x y hx hy hij hj
  clear hx hy hij hj
  generalize (Value.slice (ca a j i) (j - i) (j - i)) = R at *
  go_enter Tryz.func48, Tryz.ntmps48
  go_wp2_with fail
  go_ret
  exact ⟨rfl, rfl⟩
set_option maxRecDepth 100000 in
theorem behind_call (a : Option Addr) (n c i : Nat) (x : Int) (hx : x = i) (hi : i ≤ n) (hc : n ≤ c) (w : World) :
    Calls Tryz.prog 21 #[.slice a n c, .int .i64 x] w fun e w' => e = .returned (.slice (ca a n i) (n - i) (n - i)) ∧ w' = w := by
  have H := hid_of (part_call a n c i n x (n : Int) hx rfl hi hc w)
  clear hx hi hc
  generalize (Value.slice (ca a n i) (n - i) (n - i)) = R at *
  go_enter Tryz.func21, Tryz.ntmps21
  go_wp2_with fail
  refine H.out.mono ?_
  rintro e w1 ⟨rfl, hw⟩
  subst hw
  go_wp2_with fail
  go_ret
  exact ⟨rfl, rfl⟩
theorem sl_behind {G : Nat → Prop} {w : World} {a : Option Addr} {n c : Nat} {l : List Base.El} (h : SL G w (.slice a n c) l) (i : Nat) (hi : i ≤ l.length) : SL G w (.slice (ca a n i) (n - i) (n - i)) (l.drop i) := by
  obtain ⟨a0, c0, e, hc, hr⟩ := h
  injection e with e1 e2 e3
  subst e1 e2 e3
  exact ⟨_, _, by rw [List.length_drop], by rw [List.length_drop]; omega, hr.drop (Nat.le_refl _) i⟩
end Go.Proofs.YtpibeabokedpdaaGreatDoor.LCut
end
