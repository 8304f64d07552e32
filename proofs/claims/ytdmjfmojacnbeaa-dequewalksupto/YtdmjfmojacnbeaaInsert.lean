/- Insert. -/
import Derived.Test.YtdmjfmojacnbeaaRemove
namespace Go.Proofs.Ytdmjfmojacnbeaa.Insert
open Go.RowKit
open Go.Proofs.Ytdmjfmojacnbeaa.Base
open Go.Proofs.Ytdmjfmojacnbeaa.Held
open Go.Proofs.Ytdmjfmojacnbeaa.Lay
open Go.Proofs.Ytdmjfmojacnbeaa.Free
open Go.Proofs.Ytdmjfmojacnbeaa.Keep
open Go.Proofs.Ytdmjfmojacnbeaa.Place
open Go.Proofs.Ytdmjfmojacnbeaa.FindMath
open Go.Proofs.Ytdmjfmojacnbeaa.Find
open Go.Proofs.Ytdmjfmojacnbeaa.FindA
open Go.Proofs.Ytdmjfmojacnbeaa.SortC
set_option linter.unusedVariables false
set_option linter.unusedSimpArgs false
def insS (l : List El) (k : Nat) (v : El) : List El := l.take k ++ v :: l.drop k
theorem insS_len (l : List El) (k : Nat) (v : El) (h : k ≤ l.length) : (insS l k v).length = l.length + 1 := by simp [insS]; omega
/-- the row behind the copy and the store -/
theorem ins_is {xs l : List El} {f k : Nat} {y v : El} (h : (xs.drop f).take l.length = l) (hx : f + l.length < xs.length) (hk : k ≤ l.length) :
    (((lay xs (f + k + 1) (((l ++ [y]).drop k).take (l.length - k))).set (f + k) v).drop f).take (insS l k v).length = insS l k v := by
  have e0 : ((l ++ [y]).drop k).take (l.length - k) = l.drop k := by
    rw [List.drop_append_of_le_length hk, List.take_append_of_le_length (by simp), List.take_of_length_le (by simp)]
  rw [e0, insS_len _ _ _ hk]
  apply List.ext_getElem?
  intro t
  rw [List.getElem?_take]
  have hll : (lay xs (f + k + 1) (l.drop k)).length = xs.length := lay_len (by simp; omega)
  by_cases q : t < l.length + 1
  · rw [if_pos q, List.getElem?_drop]
    unfold insS
    by_cases q1 : t < k
    · rw [List.getElem?_set, if_neg (by omega), lay_before (by omega) (by omega), List.getElem?_append_left (by simp; omega), List.getElem?_take_of_lt q1]
      conv => rhs; rw [← h]
      rw [List.getElem?_take, if_pos (by omega), List.getElem?_drop]
    · rw [List.getElem?_append_right (by simp; omega), show (l.take k).length = k by simp; omega]
      by_cases q2 : t = k
      · subst q2
        rw [List.getElem?_set, if_pos rfl, if_pos (by omega)]; simp
      · obtain ⟨u, rfl⟩ : ∃ u, t = k + 1 + u := ⟨t - k - 1, by omega⟩
        rw [List.getElem?_set, if_neg (by omega), show k + 1 + u - k = u + 1 by omega, List.getElem?_cons_succ]
        unfold lay
        rw [List.append_assoc, List.getElem?_append_right (by simp; omega), show (xs.take (f + k + 1)).length = f + k + 1 by simp; omega, List.getElem?_append_left (by simp; omega)]
        congr 1
        omega
  · rw [if_neg q, List.getElem?_eq_none (by rw [insS_len _ _ _ hk]; omega)]
theorem one_more {F : Nat → Prop} {b : Nat} {a : Option Addr} {n c f : Nat} {xs l : List El} {w : World} (h : DK F b a n c f xs l w) (hn : f + l.length + 1 ≤ n) :
    ∃ y, DK F b a n c f xs (l ++ [y]) (w.setCell ⟨b, 2, none⟩ (.int .i64 ((f + l.length + 1 : Nat) : Int))) := by
  have h2 := h.nc
  rcases h.row with ⟨_, e⟩ | ⟨g, rfl, hF, hx, hr⟩
  · omega
  · refine ⟨xs[f + l.length]'(by omega), ⟨?_, h.own, by simp; omega, h.nc, h.lim, .inr ⟨g, rfl, hF, hx, (set_ne (Ne.symm (h.ne hr)) _).trans hr⟩, ?_⟩⟩
    · rw [set_at h.blk]
      simp [Nat.add_assoc]
    · rw [List.length_append, List.length_singleton, List.take_succ_eq_append_getElem (by simp; omega), h.is]
      simp
set_option maxHeartbeats 2000000 in
set_option maxRecDepth 100000 in
theorem insert_no {F : Nat → Prop} {b : Nat} {l : List El} {w : World} (h : DQ F b l w) (before : Bool) (p v : El) (hb : l.length * 8 ≤ 140737488355328) (hp : findN l p 1 false 1 l.length = []) :
    Calls Try.prog 45 #[ptr b, .bool before, V p, V v] w fun e w' => e = .returned (.int .i64 (-1)) ∧ DQ F b l w' ∧ Below w.heap.size w w' := by
  have hf := find_call h p 1 1 0 (by omega) (by omega) hb
  unfold findS at hf
  rw [if_neg (by decide), show looked l.length 0 = l.length from rfl, show Int.natAbs 1 = 1 from rfl, show decide ((1 : Int) < 0) = false from rfl, hp] at hf
  have HF := hid_of hf
  have HQ := hid_of h
  clear h hf hp
  go_enter Try.func45, Try.ntmps45
  go_wp2_with fail
  refine HF.out.mono ?_
  rintro e w1 ⟨v', rfl, n1, b1⟩
  obtain ⟨a1, k1, rfl, hk1, _⟩ := NR.shape n1
  rw [show (ints []).length = 0 from rfl] at *
  have N1 := hid_of b1
  clear n1 b1
  go_wp2_with fail
  go_ret
  exact ⟨rfl, HQ.out.below N1.out, N1.out⟩
set_option maxHeartbeats 4000000 in
set_option maxRecDepth 100000 in
theorem insert_yes {F : Nat → Prop} {b : Nat} {l : List El} {w : World} (h : DQ F b l w) (before : Bool) (p v : El) (k : Nat) (hb : (3 * l.length + 2) * 8 ≤ 281474976710656) (hb2 : l.length * 8 ≤ 140737488355328) (hp : findN l p 1 false 1 l.length = [k]) (hk : k < l.length) :
    Calls Try.prog 45 #[ptr b, .bool before, V p, V v] w fun e w' => e = .returned (.int .i64 ((l.length + 1 : Nat) : Int)) ∧ DQ (Gr F w) b (insS l (if before then k else k + 1) v) w' ∧ Fr F w w' := by
  have hf := find_call h p 1 1 0 (by omega) (by omega) hb2
  unfold findS at hf
  rw [if_neg (by decide), show looked l.length 0 = l.length from rfl, show Int.natAbs 1 = 1 from rfl, show decide ((1 : Int) < 0) = false from rfl, hp] at hf
  have HF := hid_of hf
  have HQ := hid_of h.low
  have hl := lim_of h
  obtain ⟨at', HAT⟩ : ∃ at', Hid (at' = if before then k else k + 1) := ⟨_, hid_of rfl⟩
  rw [← HAT.out]
  have hat : at' ≤ l.length := by rw [HAT.out]; split <;> omega
  have HFree := hid_of (fun (w1 : World) (h1 : DQ (fun k => F k ∧ k < w.heap.size) b l w1) => free_call h1 0 1 0 1 rfl rfl (by omega))
  obtain ⟨L, HL⟩ : ∃ L, Hid (L = l.length) := ⟨_, hid_of rfl⟩
  rw [← HL.out] at hat hl hk ⊢
  have HB := hid_of hb
  clear h hf hp hb hb2
  have hcs : (before = true ∧ (k : Int) = (at' : Int)) ∨ (before = false ∧ (k : Int) + 1 = (at' : Int)) := by
    rw [HAT.out]
    cases before
    · exact .inr ⟨rfl, by simp⟩
    · exact .inl ⟨rfl, by simp⟩
  rcases hcs with ⟨rfl, eA⟩ | ⟨rfl, eA⟩
  all_goals
    go_enter Try.func45, Try.ntmps45
    go_wp2_with fail
    refine HF.out.mono ?_
    rintro e w1 ⟨v', rfl, n1, b1⟩
    obtain ⟨a1, k1, rfl, hk1, _⟩ := NR.shape n1
    have s1 := n1.sl
    obtain ⟨g1, o1, rfl, _, hc1⟩ : ∃ g o, a1 = some ⟨g, o, none⟩ ∧ w.heap.size ≤ g ∧ ∀ j x, (ints [k])[j]? = some x → w1.cell? ⟨g, o + j, none⟩ = some (Base.V x) := by
      obtain ⟨a2, c2, e2, _, r2⟩ := s1
      cases e2
      rcases r2 with e | q
      · cases e
      · exact q
    have cf : w1.cell? ⟨g1, o1, none⟩ = some (.int .i64 (k : Int)) := hc1 0 _ rfl
    rw [show (ints [k]).length = 1 from rfl] at *
    have HFr1 := hid_of (HFree.out w1 (HQ.out.below b1))
    have N1 := hid_of b1
    clear n1 b1 s1 hc1
    go_wp2_with fail
    refine HFr1.out.mono ?_
    rintro e w2 ⟨rfl, ⟨a, n, c, f, xs, kk, _, hn⟩, f2⟩
    obtain ⟨t, HT⟩ : ∃ t, Hid (t = f + l.length) := ⟨_, hid_of rfl⟩
    have c2 : w2.cell? ⟨b, 2, none⟩ = some (.int .i64 (t : Int)) := by rw [HT.out]; exact kk.cell 2
    have z2 : w2.frozen? ⟨b, 2, none⟩ = false := kk.frozen 2
    have hnl := kk.lim
    have ht : t ≤ 35184372088832 := by rw [HT.out]; omega
    obtain ⟨y, k2⟩ := one_more kk hn
    rw [← HT.out] at k2
    have HH := hid_of (held_call k2)
    rw [List.length_append, ← HL.out] at HH
    have tI : ((t + 1 : Nat) : Int) = (t : Int) + 1 := by simp
    rw [tI] at HH k2
    have k2n := k2.nc
    have k2f := k2.fit
    rw [List.length_append, ← HL.out, List.length_singleton] at k2f
    rw [List.length_singleton] at HH
    obtain ⟨g, rfl, hF, hyc, hr⟩ : ∃ g, a = some ⟨g, 0, none⟩ ∧ Gr (fun k => F k ∧ k < w.heap.size) w1 g ∧ xs.length = c ∧ RowIs (w2.setCell ⟨b, 2, none⟩ (.int .i64 ((t : Int) + 1))) g xs := by
      rcases k2.row with ⟨_, e⟩ | q
      · omega
      · exact q
    have hca : ca (some ⟨g, 0, none⟩) c f = some ⟨g, f, none⟩ := by rw [ca_some g 0 c f (by omega), Nat.zero_add]
    rw [hca] at HH
    have hrd := k2.rd
    rw [hca] at hrd
    have nb := k2.ne hr
    have E2 := hid_of (And.intro kk (And.intro f2 (And.intro hn k2)))
    clear kk f2 hn k2
    go_wp2_with fail
    refine HH.out.mono ?_
    rintro e w3 ⟨rfl, m3, rfl⟩
    obtain ⟨W, HW⟩ : ∃ W, Hid ((w2.setCell ⟨b, 2, none⟩ (.int .i64 ((t : Int) + 1))).drewN m3 = W) := ⟨_, hid_of rfl⟩
    rw [HW.out]
    have hr1 : RowIs W g xs := by rw [← HW.out]; exact hr
    have hrd1 : Rd (Gr (fun k => F k ∧ k < w.heap.size) w1) W (some ⟨g, f, none⟩) (l ++ [y]) := by rw [← HW.out]; exact hrd.keep fun _ _ _ => rfl
    have hMl : (l ++ [y]).length = L + 1 := by rw [List.length_append, ← HL.out]; rfl
    have hdl : ((l ++ [y]).drop at').length = L + 1 - at' := by rw [List.length_drop, hMl]
    have hcut1 := cut_lo (some ⟨g, f, none⟩) (L + 1) (c - f) (at' + 1) ((at' : Int) + 1) (by simp) (by omega)
    rw [show L + 1 - (at' + 1) = L - at' by omega] at hcut1
    have hcut2 := cut_lo (some ⟨g, f, none⟩) (L + 1) (c - f) at' (at' : Int) rfl (by omega)
    have htl : (((l ++ [y]).drop at').take (L - at')).length = L - at' := by rw [List.length_take, hdl]; omega
    obtain ⟨W5, hcp, hr5, cs, hw5⟩ := copy_run (w := W.drewN 1) (d := ca (some ⟨g, f, none⟩) (c - f) (at' + 1)) (o := f + at' + 1) (dn := L - at') (dc := c - f - (at' + 1)) (sc := c - f - at') (hr1.drewN 1) ((hrd1.drop (c := c - f) (by omega) at').keep fun _ _ _ => rfl) (fun hp => by rw [htl] at hp; rw [ca_some _ _ _ _ (by omega)]; simp [Nat.add_assoc]) (by rw [htl]; omega)
    rw [hdl] at hcp
    have hcp1 : ∀ ty, (Builtin.copy_ #[22, 22] ty #[.slice (ca (some ⟨g, f, none⟩) (c - f) (at' + 1)) (L - at') (c - f - (at' + 1)), .slice (ca (some ⟨g, f, none⟩) (c - f) at') (L + 1 - at') (c - f - at')]).run Try.prog W.drew = .ok (goInt (((l ++ [y]).drop at').take (L - at')).length) W5 := hcp
    have cy : ∃ u, W5.cell? ⟨g, f + at', none⟩ = some (V u) := ⟨_, by rw [hr5.cell, List.getElem?_eq_getElem (by rw [lay_len (by rw [htl]; omega)]; omega)]; rfl⟩
    obtain ⟨u, cy⟩ := cy
    have zy : W5.frozen? ⟨g, f + at', none⟩ = false := hr5.frozen _
    have E5 := hid_of (And.intro hr5 hw5)
    have HX := hid_of (And.intro hyc (And.intro k2n k2f))
    clear hcp hr5 hw5 hr hrd hr1 hrd1 hdl htl hyc hMl
    go_wp2_with fail
    go_region
    all_goals
      go_wp2_with fail
      go_ret
      obtain ⟨kk, f2, hn, k2⟩ := E2.out
      obtain ⟨hr5, hw5⟩ := E5.out
      obtain ⟨hyc, k2n, k2f⟩ := HX.out
      have b1 := N1.out
      have hb5 : W5.heap[b]? = (w2.setCell ⟨b, 2, none⟩ (.int .i64 ((t : Int) + 1))).heap[b]? := by
        rw [hw5, row_ne nb, ← HW.out]; rfl
      have hst : L - at' = l.length - at' := by rw [HL.out]
      refine ⟨by first | rfl | simp, ⟨_, n, c, f, _, ⟨?_, ?_, ?_, k2n, k2.lim, .inr ⟨g, rfl, ?_, ?_, hr5.set _ _⟩, ?_⟩⟩, ?_⟩
      · rw [set_ne nb, hb5, k2.blk, insS_len _ _ _ (by rw [← HL.out]; exact hat)]
        simp
      · rcases k2.own with e | e
        · exact .inl e.1
        · exact .inr (Nat.le_trans b1.size e)
      · rw [insS_len _ _ _ (by rw [← HL.out]; exact hat), ← HL.out]; omega
      · rcases hF with e | e
        · exact .inl e.1
        · exact .inr (Nat.le_trans b1.size e)
      · rw [List.length_set, lay_len (by rw [List.length_take, List.length_drop, List.length_append, ← HL.out, List.length_singleton]; omega)]; exact hyc
      · rw [hst]
        exact ins_is kk.is (by rw [← HL.out]; omega) (by rw [← HL.out]; exact hat)
      · have fw : Fr F w w2 := (Fr.of_below b1).trans ⟨f2.os, f2.tape, f2.output, f2.size, fun j hj hn => f2.block j hj fun e => hn (.inl e.1)⟩
        have up : ∀ j, Gr (fun k => F k ∧ k < w.heap.size) w1 j → Gr F w j := fun j e => by
          rcases e with e | e
          · exact .inl e.1
          · exact .inr (Nat.le_trans b1.size e)
        have f4 : Fr F w W := by
          rw [← HW.out]
          exact (fw.trans (Fr.set (i := 2) (up _ k2.own) _)).drewN m3
        have f5 : Fr F w W5 := by
          rw [hw5]
          exact (f4.drewN 1).trans (Fr.row (up _ hF) _)
        exact f5.trans (Fr.set (up _ hF) _)
end Go.Proofs.Ytdmjfmojacnbeaa.Insert
