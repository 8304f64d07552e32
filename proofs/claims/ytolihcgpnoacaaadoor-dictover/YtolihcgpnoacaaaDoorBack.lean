/- The law DictBack: what is set is got, nothing else changes, and a dict of its fields is as it was. -/
import Derived.Test.YtolihcgpnoacaaaDoorNobody
namespace Go.Proofs.YtolihcgpnoacaaaDoor.Back
open Go.RowKit Go.Maps Go.Sort
open Go.Proofs.YtolihcgpnoacaaaDoor.DictMath
open Go.Proofs.YtolihcgpnoacaaaDoor.Base
open Go.Proofs.YtolihcgpnoacaaaDoor.Small
open Go.Proofs.YtolihcgpnoacaaaDoor.Of
open Go.Proofs.YtolihcgpnoacaaaDoor.Fields
open Go.Proofs.YtolihcgpnoacaaaDoor.Same
open Go.Proofs.YtolihcgpnoacaaaDoor.Nobody
open Go.Proofs.YtolihcgpnoacaaaDoor.Sure
open Go.Proofs.YtolihcgpnoacaaaDoor.Parse
set_option linter.unusedVariables false

structure Gv (w : World) (v : Value) (l : FL) : Prop where
  fs : FS w v l
  len : l.length ≤ 4398046511103
  szs : ∀ p ∈ l, p.1.length ≤ 140737488351232 ∧ p.2.length ≤ 140737488351232
theorem Gv.big {w : World} {v : Value} {l : FL} (h : Gv w v l) : ∀ p ∈ l, p.1.length ≤ 140737488355328 ∧ p.2.length ≤ 140737488355328 := fun p hp => by have := h.szs p hp; omega
theorem take_ok {l : FL} {k : Nat} (h : k < l.length) (x : Bs) : ok (l.take (k + 1)) x = (ok (l.take k) x || decide ((l[k]'h).1 = x)) := by
  rw [Bool.eq_iff_iff, ok_iff, Bool.or_eq_true, ok_iff, decide_eq_true_eq, take_snoc h]
  constructor
  · rintro ⟨p, hp, e⟩
    rcases List.mem_append.1 hp with hp | hp
    · exact .inl ⟨p, hp, e⟩
    · rw [List.mem_singleton.1 hp] at e; exact .inr e
  · rintro (⟨p, hp, e⟩ | e)
    · exact ⟨p, List.mem_append_left _ hp, e⟩
    · exact ⟨_, List.mem_append_right _ (List.mem_singleton.2 rfl), e⟩
theorem wout_with (l : FL) (k v : Bs) : wout (withL l k v) k = wout l k := by
  unfold withL
  have : ∀ r : FL, (∀ p ∈ r, p.1 ≠ k) → wout (insL (k, v) r) k = r := by
    intro r
    induction r with
    | nil => intro _; simp [insL, wout]
    | cons a r ih =>
      intro h
      unfold insL
      split
      · have e : wout ((k, v) :: a :: r) k = wout (a :: r) k := by unfold wout; rw [List.filter_cons, if_neg (by simp)]
        rw [e, wout_same h]
      · have e : wout (a :: insL (k, v) r) k = a :: wout (insL (k, v) r) k := by unfold wout; rw [List.filter_cons, if_pos (by simpa using h a List.mem_cons_self)]
        rw [e, ih (fun p hp => h p (List.mem_cons_of_mem _ hp))]
  exact this _ (fun p hp => wout_none p hp)
theorem back_len {l : FL} (h : Ris l) (k : Bs) : decide ((wout l k).length = l.length) = !ok l k := by
  cases hk : ok l k with
  | true => have := wout_len_ok h hk; simp; omega
  | false => rw [wout_no hk]; simp
theorem ne_true (x : Bool) : ((!x) != x) = true := by cases x <;> rfl
set_option maxHeartbeats 4000000 in
set_option maxRecDepth 100000 in
theorem back_no (v : Value) (l : FL) (s t : Value) (w : World) (h : Gv w v l) (hr : ¬ Ris l) (hh : Has w) : Calls Tryd.prog 5 #[v, s, t] w fun e w' => e = .returned (.bool true) ∧ Below w.heap.size w w' := by
  have HH := hid_of hh
  have H1 := hid_of (of_no v l w h.fs (by have := h.len; omega) hr)
  have H2 : Hid (∀ w1, Below w.heap.size w w1 → Calls Tryd.prog 9 #[v] w1 fun e w' => e = .returned (.bool false) ∧ Below w1.heap.size w1 w') := hid_of fun w1 b1 => by
    have := rises_call v l w1 (h.fs.below b1) (by have := h.len; omega)
    rw [decide_eq_false hr] at this
    exact this
  have H8 := hid_of sure_call
  clear h hr hh
  go_enter Tryd.func5, Tryd.ntmps5
  go_wp2_with fail
  refine H1.out.mono ?_
  rintro e w1 hw1
  obtain ⟨rfl, bb⟩ := hw1
  have B1 := hid_of bb
  have H2' := hid_of (H2.out w1 bb)
  clear bb H2
  go_wp2_with fail
  refine H2'.out.mono ?_
  rintro e w2 hw2
  obtain ⟨rfl, bb⟩ := hw2
  have B2 := hid_of (Base.bel B1.out bb (Nat.le_refl _))
  clear bb B1
  go_wp2_with fail
  refine (H8.out _ (HH.out.later B2.out)).mono ?_
  rintro e w4 hw4
  obtain ⟨rfl, bb⟩ := hw4
  go_wp2_with fail
  go_ret
  exact ⟨rfl, Base.bel B2.out bb (Nat.le_refl _)⟩
set_option maxHeartbeats 8000000 in
set_option maxRecDepth 100000 in
theorem back_yes (v : Value) (l : FL) (k u : Bs) (w : World) (h : Gv w v l) (hr : Ris l) (hk : k.length ≤ 140737488351232) (hu : u.length ≤ 140737488351232) (hh : Has w) : Calls Tryd.prog 5 #[v, .string (mk k), .string (mk u)] w fun e w' => e = .returned (.bool true) ∧ Below w.heap.size w w' := by
  have HH := hid_of hh
  have H1 := hid_of (of_yes v l w h.fs (by have := h.len; omega) hr h.big)
  have HG := hid_of h
  have HR := hid_of hr
  have H8 := hid_of sure_call
  obtain ⟨a, c, rfl, hfs⟩ := id h.fs
  have HFS := hid_of hfs
  have hlen := h.len
  clear h hr hh hfs
  go_enter Tryd.func5, Tryd.ntmps5
  go_wp2_with fail
  refine H1.out.mono ?_
  rintro e w1 ⟨b, m, rfl, d1, lb, lm, bb⟩
  have S1 : Hid (St w.heap.size w b m l w1) := hid_of ⟨d1, lb, lm, bb⟩
  have H2 := hid_of (set_call b m l (mk k) (mk u) w1 d1 (by rw [mk_size]; omega) (by rw [mk_size]; omega) (by omega))
  rw [bs_mk, bs_mk] at H2
  have q24 := eq24 b
  clear d1 lb lm bb H1
  unfold ptr at H2 ⊢
  go_wp2_with fail
  refine H2.out.mono ?_
  rintro e w2 hw2
  obtain ⟨rfl, d2, m2⟩ := hw2
  have S2 := hid_of (S1.out.mv (Nat.le_refl _) d2 m2)
  obtain ⟨l1, hl1⟩ : ∃ l1, l1 = withL l k u := ⟨_, rfl⟩
  have HL1 := hid_of hl1
  rw [← hl1] at S2
  have H3 := hid_of (get_call b m l1 (mk k) w2 S2.out.dk (by rw [mk_size]; omega))
  have e1 : valS l1 (bs (mk k)) = mk u := by unfold valS; rw [bs_mk, hl1, lkp_with, if_pos rfl]; rfl
  have e2 : ok l1 (bs (mk k)) = true := by unfold ok; rw [bs_mk, hl1, lkp_with, if_pos rfl]; rfl
  rw [e1, e2] at H3
  unfold ptr at H3
  have eu : ((mk u).toList == (mk u).toList) = true := by simp
  clear hl1 d2 m2 S1 H2 e1 e2
  go_wp2_with fail
  refine H3.out.mono ?_
  rintro e w3 hw3
  obtain ⟨rfl, bb⟩ := hw3
  have S3 := hid_of (S2.out.below (Nat.le_refl _) bb)
  clear bb S2 H3
  go_wp2_with fail
  clear eu
  go_loopg [12, 13] l.length (fun g sf si wx => ∃ i : Nat, i ≤ l.length ∧ l.length ≤ i + g ∧ si = .int .i64 (i : Int) ∧ sf = .bool (ok (l.take i) k) ∧ Hid (St w.heap.size w b m l1 wx))
  case atStart => exact ⟨0, by omega, by omega, rfl, rfl, S3⟩
  case round =>
    obtain ⟨i, hi, hg, rfl, rfl, HS⟩ := hrel
    by_cases hlt : i < l.length
    · obtain ⟨g', rfl⟩ : ∃ g', gk = g' + 1 := ⟨gk - 1, by omega⟩
      obtain ⟨ga, oa, rfl, ha⟩ : ∃ g o, a = some ⟨g, o, none⟩ ∧ ∀ k (h : k < l.length), w.cell? ⟨g, o + k * 2, none⟩ = some (.string (mk (l[k]'h).1)) ∧ w.cell? ⟨g, o + k * 2 + 1, none⟩ = some (.string (mk (l[k]'h).2)) := by
        rcases HFS.out with h | ⟨g, o, e, h⟩
        · subst h; simp at hlt
        · exact ⟨g, o, e, h⟩
      have hsz := HG.out.szs (l[i]'hlt) (List.getElem_mem hlt)
      have hlk : lkp l (l[i]'hlt).1 = some (l[i]'hlt).2 := lkp_at HR.out _ (List.getElem_mem hlt)
      have hto := take_ok hlt k
      obtain ⟨a0, a1⟩ := ha i hlt
      obtain ⟨p, hp⟩ : ∃ p, p = l[i]'hlt := ⟨_, rfl⟩
      rw [← hp] at a0 a1 hsz hlk hto
      have c0 := cell_on HS.out.bel a0
      have H4 := hid_of (get_call b m l1 (mk p.1) wr HS.out.dk (by rw [mk_size]; omega))
      rw [bs_mk] at H4
      have CC : Hid (∀ W, Below wr.heap.size wr W → W.cell? ⟨ga, oa + i * 2, none⟩ = some (.string (mk p.1)) ∧ W.cell? ⟨ga, oa + i * 2 + 1, none⟩ = some (.string (mk p.2))) := hid_of fun W hW => ⟨cell_on hW c0, cell_on hW (cell_on HS.out.bel a1)⟩
      have g2 : (i : Int) < (l.length : Int) := by omega
      have e2 : IntKind.i64.wrap ((i : Int) + 1) = (i : Int) + 1 := IntWalk.i64_in _ (by omega)
      have hcmp := str_eq p.1 k
      clear ha a0 a1 hp
      unfold ptr at H4
      by_cases hpk : p.1 = k
      · have hq : (p.1 == k) = true := by simpa using hpk
        rw [hq] at hcmp
        rw [decide_eq_true hpk, Bool.or_true] at hto
        have HTO := hid_of hto
        clear hpk hq hto hlk hsz
        generalize mk p.1 = X at *
        generalize mk k = Kb at *
        go_wp2_with fail
        refine H4.out.mono ?_
        rintro e w4 hw4
        obtain ⟨rfl, bb⟩ := hw4
        have S4 := hid_of (HS.out.below (Nat.le_refl _) bb)
        obtain ⟨f0, f1⟩ := CC.out w4 bb
        clear bb c0 H4 CC
        go_wp2_with fail
        go_roundg g'
        case measure => omega
        case rel => exact ⟨i + 1, by omega, by omega, by rw [show ((i + 1 : Nat) : Int) = (i : Int) + 1 from by omega], by rw [HTO.out], S4⟩
      · have hq : (p.1 == k) = false := by simpa using hpk
        rw [hq] at hcmp
        rw [decide_eq_false hpk, Bool.or_false] at hto
        have e3 : lkp l1 p.1 = some p.2 := by rw [HL1.out, lkp_with, if_neg (fun e => hpk e.symm)]; exact hlk
        have e4 : valS l1 p.1 = mk p.2 := by unfold valS; rw [e3]; rfl
        have e5 : ok l1 p.1 = true := by unfold ok; rw [e3]; rfl
        rw [e4, e5] at H4
        have HTO := hid_of hto
        have ey : ((mk p.2).toList == (mk p.2).toList) = true := by simp
        clear hpk hq hto hlk hsz e3 e4 e5
        generalize mk p.1 = X at *
        generalize mk p.2 = Y at *
        generalize mk k = Kb at *
        go_wp2_with fail
        refine H4.out.mono ?_
        rintro e w4 hw4
        obtain ⟨rfl, bb⟩ := hw4
        have S4 := hid_of (HS.out.below (Nat.le_refl _) bb)
        obtain ⟨f0, f1⟩ := CC.out w4 bb
        clear bb c0 H4 CC
        go_wp2_with fail
        go_roundg g'
        case measure => omega
        case rel => exact ⟨i + 1, by omega, by omega, by rw [show ((i + 1 : Nat) : Int) = (i : Int) + 1 from by omega], by rw [HTO.out], S4⟩
    · have gi : ¬ (i : Int) < (l.length : Int) := by omega
      have hta : l.take i = l := List.take_of_length_le (by omega)
      rw [hta]
      have hll : l1.length ≤ l.length + 1 := by rw [HL1.out]; exact with_len l k u
      have HSZ : Hid (∀ p ∈ l1, p.1.length ≤ 140737488355328 ∧ p.2.length ≤ 140737488355328) := hid_of HS.out.dk.len
      have H5 := hid_of (all_fields b m l1 wr HS.out.dk (by omega))
      unfold ptr at H5
      clear hi hg hlt hta
      obtain ⟨F, hF⟩ : ∃ F, F = ok l k := ⟨_, rfl⟩
      have HF := hid_of hF
      rw [← hF]
      have fne := ne_true F
      clear hF
      go_wp2_with fail
      refine H5.out.mono ?_
      rintro e w5 ⟨v5, rfl, o5, bb⟩
      have S5 := hid_of (HS.out.below (Nat.le_refl _) bb)
      have H6 := hid_of (of_yes v5 l1 w5 (fs_row o5) (by omega) HS.out.dk.ris HSZ.out)
      clear bb o5 H5
      go_wp2_with fail
      refine H6.out.mono ?_
      rintro e w6 ⟨b6, m6, rfl, d6, lb6, lm6, bb⟩
      have S6 := hid_of (S5.out.below (Nat.le_refl _) bb)
      have T6 : Hid (St w.heap.size w b6 m6 l1 w6) := hid_of ⟨d6, Nat.le_trans S5.out.bel.size lb6, Nat.le_trans S5.out.bel.size lm6, S6.out.bel⟩
      have H7 := hid_of (all_fields b6 m6 l1 w6 T6.out.dk (by omega))
      have q24b : ∀ w, (binOp .neq 24 (.pointer (some ⟨b6, 0, none⟩)) (.pointer none)).run Tryd.prog w = .ok (.bool true) w := fun w => by kernel_rfl
      clear bb d6 lb6 lm6 H6 S5
      unfold ptr at H7 ⊢
      go_wp2_with fail
      refine H7.out.mono ?_
      rintro e w7 ⟨v7, rfl, o7, bb⟩
      have S7 := hid_of (S6.out.below (Nat.le_refl _) bb)
      have HO7 := hid_of (fs_row o7)
      have H9 := hid_of (all_fields b m l1 w7 S7.out.dk (by omega))
      unfold ptr at H9
      clear bb o7 H7 S6 T6
      go_wp2_with fail
      refine H9.out.mono ?_
      rintro e w9 ⟨v9, rfl, o9, bb⟩
      have S9 := hid_of (S7.out.below (Nat.le_refl _) bb)
      have H10 := hid_of (same_call v7 v9 l1 l1 w9 (HO7.out.below bb) (fs_row o9) (by omega) (by omega))
      rw [decide_eq_true (rfl : l1 = l1)] at H10
      clear bb o9 H9 S7 HO7
      go_wp2_with fail
      refine H10.out.mono ?_
      rintro e w10 hw10
      obtain ⟨rfl, bb⟩ := hw10
      have S10 := hid_of (S9.out.below (Nat.le_refl _) bb)
      have H11 := hid_of (all_fields b m l1 w10 S10.out.dk (by omega))
      unfold ptr at H11
      clear bb H10 S9
      go_wp2_with fail
      refine H11.out.mono ?_
      rintro e w11 ⟨v11, rfl, o11, bb⟩
      have S11 := hid_of (S10.out.below (Nat.le_refl _) bb)
      obtain ⟨a11, c11, rfl⟩ := fld_shape o11
      have H12 := hid_of (len_call b m l1 w11 S11.out.dk)
      unfold ptr at H12
      clear bb o11 H11 S10
      go_wp2_with fail
      refine H12.out.mono ?_
      rintro e w12 hw12
      obtain ⟨rfl, rfl⟩ := hw12
      have H13 := hid_of (drop_call b m l1 (mk k) w12 S11.out.dk (by rw [mk_size]; omega))
      rw [bs_mk, show ok l1 k = true from by unfold ok; rw [HL1.out, lkp_with, if_pos rfl]; rfl, HL1.out, wout_with] at H13
      unfold ptr at H13
      clear H12
      go_wp2_with fail
      refine H13.out.mono ?_
      rintro e w13 hw13
      obtain ⟨rfl, d13, m13⟩ := hw13
      have S13 := hid_of (S11.out.mv (Nat.le_refl _) d13 m13)
      have H14 := hid_of (len_call b m (wout l k) w13 S13.out.dk)
      unfold ptr at H14
      have hbl := back_len HR.out k
      rw [← HF.out] at hbl
      obtain ⟨M, hM⟩ : ∃ M, M = (wout l k).length := ⟨_, rfl⟩
      rw [← hM] at H14 hbl
      have hbl2 : ((M : Int) == (l.length : Int)) = !F := by rw [← hbl, Bool.eq_iff_iff]; simp; omega
      clear d13 m13 H13 S11 hM hbl
      go_wp2_with fail
      refine H14.out.mono ?_
      rintro e w14 hw14
      obtain ⟨rfl, rfl⟩ := hw14
      go_wp2_with fail
      refine (H8.out _ (HH.out.later S13.out.bel)).mono ?_
      rintro e w15 hw15
      obtain ⟨rfl, bb⟩ := hw15
      have S15 := hid_of (S13.out.below (Nat.le_refl _) bb)
      clear bb
      go_wp2_with fail
      go_ret
      exact ⟨rfl, S15.out.bel⟩
theorem back_call (v : Value) (l : FL) (s t : ByteArray) (w : World) (h : Gv w v l) (hs : s.size ≤ 140737488351232) (ht : t.size ≤ 140737488351232) (hh : Has w) : Calls Tryd.prog 5 #[v, .string s, .string t] w fun e w' => e = .returned (.bool true) ∧ Below w.heap.size w w' := by
  by_cases hr : Ris l
  · have := back_yes v l (bs s) (bs t) w h hr (by rw [len_bs]; exact hs) (by rw [len_bs]; exact ht) hh
    rw [mk_bs, mk_bs] at this
    exact this
  · exact back_no v l _ _ w h hr hh
end Go.Proofs.YtolihcgpnoacaaaDoor.Back
