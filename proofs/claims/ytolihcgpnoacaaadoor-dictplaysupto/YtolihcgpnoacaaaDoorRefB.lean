/- The document's own: Set, Drop, Incr, After. -/
import Derived.Test.YtolihcgpnoacaaaDoorRefA
namespace Go.Proofs.YtolihcgpnoacaaaDoor.RefB
open Go.RowKit Go.Maps Go.Sort
open Go.Lib (itoa)
open Go.Proofs.YtolihcgpnoacaaaDoor.DictMath
open Go.Proofs.YtolihcgpnoacaaaDoor.Base
open Go.Proofs.YtolihcgpnoacaaaDoor.Rising
open Go.Proofs.YtolihcgpnoacaaaDoor.Of
open Go.Proofs.YtolihcgpnoacaaaDoor.Fields
open Go.Proofs.YtolihcgpnoacaaaDoor.Incr
open Go.Proofs.YtolihcgpnoacaaaDoor.Sure
open Go.Proofs.YtolihcgpnoacaaaDoor.Walk
open Go.Proofs.YtolihcgpnoacaaaDoor.RefA
set_option linter.unusedVariables false

theorem bd_app {w1 W : World} {xs : FL} {v : Value} (h : Bd w1 v xs W) (u : Value) (ys : FL) (hu : FS W u ys) (hn : xs.length + ys.length ≤ 4398046511104) :
    ∃ v' W', (Builtin.append_ #[22, 22] 22 #[v, u]).run Tryd.prog W = .ok v' W' ∧ Bd w1 v' (xs ++ ys) W' := by
  obtain ⟨v', W', hr, ho, hg⟩ := append_fs w1.heap.size W v u xs ys h.row hu h.bel.size hn
  exact ⟨v', W', hr, ho, h.bel.grown hg h.bel.size (fun k hk => (h.row.lt k hk).1)⟩
def RsE (M : FL) (x : Bool) (w : World) (e : Ending) (w' : World) : Prop := ∃ v', e = .returned (.tuple #[v', .bool x]) ∧ FC w' v' M ∧ Below w.heap.size w w'
theorem fs_at {w : World} {v : Value} {l : FL} (h : FC w v l) : ∃ a c, v = .slice a l.length c ∧ l.length ≤ c := h.cap
theorem pos_lt {l : FL} (hr : Ris l) {k : Bs} (h : ok l k = true) : pos l k < l.length := by
  rw [ok_pos hr k] at h
  exact (of_decide_eq_true h).1
set_option maxHeartbeats 4000000 in
set_option maxRecDepth 100000 in
theorem rset_call (v : Value) (l : FL) (k u : Bs) (w : World) (h : FC w v l) (hr : Ris l) (hl : l.length < 4398046511103) : Calls Tryd.prog 11 #[v, .string (mk k), .string (mk u)] w fun e w' => RsE (withL l k u) (!ok l k) w e w' := by
  have H1 := hid_of (rfind_call v l k w h.fs hr (by omega))
  obtain ⟨a, c, rfl, hc⟩ := h.cap
  have hpl := pos_le l k
  have hwe := with_eq hr k u
  have hpok : ok l k = true → pos l k < l.length := pos_lt hr
  have HF := hid_of h
  obtain ⟨N, hN⟩ : ∃ N, N = pos l k := ⟨_, rfl⟩
  rw [← hN] at H1 hpl hwe hpok
  have hcut1 := cut_hi a l.length c N (by omega)
  clear h hN
  cases ho : ok l k with
  | true =>
    rw [ho] at H1
    rw [ho, if_pos rfl] at hwe
    have hN1 := hpok ho
    have HW := hid_of hwe
    have hcut2 := cut_lo a l.length c (N + 1) (by omega)
    have e1 : IntKind.i64.wrap ((N : Int) + 1) = (N : Int) + 1 := IntWalk.i64_in _ (by omega)
    rw [show ((N + 1 : Nat) : Int) = (N : Int) + 1 from by omega] at hcut2
    clear hwe ho hpok
    go_enter Tryd.func11, Tryd.ntmps11
    go_wp2_with fail
    refine H1.out.mono ?_
    rintro e w1 hw1
    obtain ⟨rfl, b1⟩ := hw1
    have F1 := HF.out.below b1
    obtain ⟨v2, w2, hr2, bd2⟩ := bd_app (bd_start w1) (.slice a N c) (l.take N) (F1.take N (by omega)).fs (by simp; omega)
    have bA : Below w2.heap.size w2 (w2.alloc (.cells #[.string (mk k), .string (mk u)] 52)) := (Below.refl _ w2).alloc (Nat.le_refl _) _
    obtain ⟨v3, w3, hr3, bd3⟩ := bd_app (bd2.below bA) (.slice (some ⟨w2.heap.size, 0, none⟩) 1 1) [(k, u)] (fs_one w2 (mk k) (mk u)) (by simp; omega)
    obtain ⟨v4, w4, hr4, bd4⟩ := bd_app bd3 (.slice (ca a c (N + 1)) (l.length - (N + 1)) (c - (N + 1))) (l.drop (N + 1)) (F1.below bd3.bel |>.drop (N + 1) (by omega)).fs (by simp; omega)
    have HB := hid_of bd4
    have B1 := hid_of b1
    clear b1 F1 bd2 bA bd3 bd4 H1
    go_wp2_with (first
      | (at_builtin; refine wpl_eq rfl _ _ 22 22 rfl (.slice none 0 0) (.slice a N c) v2 w1 w2 rfl rfl hr2 ?_)
      | (at_builtin; refine wpl_eq rfl _ _ 22 22 rfl v2 (.slice (some ⟨w2.heap.size, 0, none⟩) 1 1) v3 _ w3 rfl rfl hr3 ?_)
      | (at_builtin; refine wpl_eq rfl _ _ 22 22 rfl v3 (.slice (ca a c (N + 1)) (l.length - (N + 1)) (c - (N + 1))) v4 w3 w4 rfl rfl hr4 ?_)
      | go_in)
    go_ret2
    refine ⟨v4, rfl, ?_, Base.bel B1.out HB.out.bel (Nat.le_refl _)⟩
    have := fc_row HB.out.row
    rw [List.nil_append, List.append_assoc] at this
    rw [HW.out]
    exact this
  | false =>
    rw [ho] at H1
    rw [ho, if_neg (by decide)] at hwe
    have HW := hid_of hwe
    have hcut2 := cut_lo a l.length c N (by omega)
    clear hwe ho hpok
    go_enter Tryd.func11, Tryd.ntmps11
    go_wp2_with fail
    refine H1.out.mono ?_
    rintro e w1 hw1
    obtain ⟨rfl, b1⟩ := hw1
    have F1 := HF.out.below b1
    obtain ⟨v2, w2, hr2, bd2⟩ := bd_app (bd_start w1) (.slice a N c) (l.take N) (F1.take N (by omega)).fs (by simp; omega)
    have bA : Below w2.heap.size w2 (w2.alloc (.cells #[.string (mk k), .string (mk u)] 52)) := (Below.refl _ w2).alloc (Nat.le_refl _) _
    obtain ⟨v3, w3, hr3, bd3⟩ := bd_app (bd2.below bA) (.slice (some ⟨w2.heap.size, 0, none⟩) 1 1) [(k, u)] (fs_one w2 (mk k) (mk u)) (by simp; omega)
    obtain ⟨v4, w4, hr4, bd4⟩ := bd_app bd3 (.slice (ca a c N) (l.length - N) (c - N)) (l.drop N) (F1.below bd3.bel |>.drop N (by omega)).fs (by simp; omega)
    have HB := hid_of bd4
    have B1 := hid_of b1
    clear b1 F1 bd2 bA bd3 bd4 H1
    go_wp2_with (first
      | (at_builtin; refine wpl_eq rfl _ _ 22 22 rfl (.slice none 0 0) (.slice a N c) v2 w1 w2 rfl rfl hr2 ?_)
      | (at_builtin; refine wpl_eq rfl _ _ 22 22 rfl v2 (.slice (some ⟨w2.heap.size, 0, none⟩) 1 1) v3 _ w3 rfl rfl hr3 ?_)
      | (at_builtin; refine wpl_eq rfl _ _ 22 22 rfl v3 (.slice (ca a c N) (l.length - N) (c - N)) v4 w3 w4 rfl rfl hr4 ?_)
      | go_in)
    go_ret2
    refine ⟨v4, rfl, ?_, Base.bel B1.out HB.out.bel (Nat.le_refl _)⟩
    have := fc_row HB.out.row
    rw [List.nil_append, List.append_assoc] at this
    rw [HW.out]
    exact this
set_option maxHeartbeats 4000000 in
set_option maxRecDepth 100000 in
theorem rdrop_call (v : Value) (l : FL) (k : Bs) (w : World) (h : FC w v l) (hr : Ris l) (hl : l.length < 4398046511103) : Calls Tryd.prog 13 #[v, .string (mk k)] w fun e w' => RsE (wout l k) (ok l k) w e w' := by
  have H1 := hid_of (rfind_call v l k w h.fs hr (by omega))
  obtain ⟨a, c, rfl, hc⟩ := h.cap
  have hpl := pos_le l k
  have hpok : ok l k = true → pos l k < l.length := pos_lt hr
  have HF := hid_of h
  cases ho : ok l k with
  | true =>
    have hwe := wout_eq hr k ho
    obtain ⟨N, hN⟩ : ∃ N, N = pos l k := ⟨_, rfl⟩
    rw [← hN] at H1 hpl hwe hpok
    have hcut1 := cut_hi a l.length c N (by omega)
    rw [ho] at H1
    have hN1 := hpok ho
    have HW := hid_of hwe
    have hcut2 := cut_lo a l.length c (N + 1) (by omega)
    have e1 : IntKind.i64.wrap ((N : Int) + 1) = (N : Int) + 1 := IntWalk.i64_in _ (by omega)
    rw [show ((N + 1 : Nat) : Int) = (N : Int) + 1 from by omega] at hcut2
    clear hwe ho hpok h hN
    go_enter Tryd.func13, Tryd.ntmps13
    go_wp2_with fail
    refine H1.out.mono ?_
    rintro e w1 hw1
    obtain ⟨rfl, b1⟩ := hw1
    have F1 := HF.out.below b1
    obtain ⟨v2, w2, hr2, bd2⟩ := bd_app (bd_start w1) (.slice a N c) (l.take N) (F1.take N (by omega)).fs (by simp; omega)
    obtain ⟨v4, w4, hr4, bd4⟩ := bd_app bd2 (.slice (ca a c (N + 1)) (l.length - (N + 1)) (c - (N + 1))) (l.drop (N + 1)) (F1.below bd2.bel |>.drop (N + 1) (by omega)).fs (by simp; omega)
    have HB := hid_of bd4
    have B1 := hid_of b1
    clear b1 F1 bd2 bd4 H1
    go_wp2_with (first
      | (at_builtin; refine wpl_eq rfl _ _ 22 22 rfl (.slice none 0 0) (.slice a N c) v2 w1 w2 rfl rfl hr2 ?_)
      | (at_builtin; refine wpl_eq rfl _ _ 22 22 rfl v2 (.slice (ca a c (N + 1)) (l.length - (N + 1)) (c - (N + 1))) v4 w2 w4 rfl rfl hr4 ?_)
      | go_in)
    go_ret2
    refine ⟨v4, rfl, ?_, Base.bel B1.out HB.out.bel (Nat.le_refl _)⟩
    have := fc_row HB.out.row
    rw [List.nil_append] at this
    rw [HW.out]
    exact this
  | false =>
    rw [ho] at H1
    have HW := hid_of (wout_no ho)
    clear ho hpok h
    generalize pos l k = N at *
    go_enter Tryd.func13, Tryd.ntmps13
    go_wp2_with fail
    refine H1.out.mono ?_
    rintro e w1 hw1
    obtain ⟨rfl, b1⟩ := hw1
    go_wp2_with fail
    go_ret2
    refine ⟨.slice a l.length c, rfl, ?_, b1⟩
    rw [HW.out]
    exact HF.out.below b1
def RaE (M : FL) (w : World) (e : Ending) (w' : World) : Prop := ∃ v', e = .returned v' ∧ FC w' v' M ∧ Below w.heap.size w w'
theorem FC.piece {w : World} {a : Option Addr} {c : Nat} {l : FL} (h : FC w (.slice a l.length c) l) (i j : Nat) (hi : i + j ≤ l.length) : FC w (.slice (ca a c i) (i + j - i) (c - i)) ((l.drop i).take j) := by
  have h1 := FC.drop h i (by omega)
  have hl : (l.drop i).length = l.length - i := List.length_drop
  rw [← hl] at h1
  have h2 := FC.take h1 j (by omega)
  rw [show i + j - i = j from by omega]
  exact h2
set_option maxHeartbeats 4000000 in
set_option maxRecDepth 100000 in
theorem rafter_call (v : Value) (l : FL) (k : Bs) (n : Int) (w : World) (h : FC w v l) (hr : Ris l) (hl : l.length < 4398046511103) (hn : -9223372036854775808 ≤ n ∧ n ≤ 9223372036854775807) : Calls Tryd.prog 19 #[v, .string (mk k), .int .i64 n] w fun e w' => RaE ((beh l k).take n.toNat) w e w' := by
  have H1 := hid_of (rfind_call v l k w h.fs hr (by omega))
  obtain ⟨a, c, rfl, hc⟩ := h.cap
  have hpl := pos_le l k
  have hbe := beh_eq hr k
  have hpok : ok l k = true → pos l k < l.length := pos_lt hr
  have HF := hid_of h
  obtain ⟨N, hN⟩ : ∃ N, N = pos l k := ⟨_, rfl⟩
  rw [← hN] at H1 hpl hbe hpok
  clear h hN
  have key : ∀ I : Nat, I ≤ l.length → beh l k = l.drop I → ∃ D J E : Nat, I + D = l.length ∧ J ≤ D ∧ E = I + J ∧ IntKind.i64.wrap ((l.length : Int) - (I : Int)) = (D : Int) ∧ max 0 (min n (D : Int)) = (J : Int) ∧ IntKind.i64.wrap ((I : Int) + (J : Int)) = (E : Int) ∧ (beh l k).take n.toNat = (l.drop I).take J := fun I hI hb => by
    refine ⟨l.length - I, min n.toNat (l.length - I), I + min n.toNat (l.length - I), by omega, by omega, rfl, ?_, ?_, ?_, ?_⟩
    · rw [show (l.length : Int) - (I : Int) = ((l.length - I : Nat) : Int) from by omega]; exact IntWalk.i64_in _ (by omega)
    · omega
    · rw [show (I : Int) + ((min n.toNat (l.length - I) : Nat) : Int) = ((I + min n.toNat (l.length - I) : Nat) : Int) from by omega]; exact IntWalk.i64_in _ (by omega)
    · rw [hb, List.take_eq_take_iff, List.length_drop]
      omega
  cases ho : ok l k with
  | true =>
    rw [ho] at H1
    rw [ho, if_pos rfl] at hbe
    have hN1 := hpok ho
    obtain ⟨I, hI⟩ : ∃ I, I = N + 1 := ⟨_, rfl⟩
    rw [← hI] at hbe
    obtain ⟨D, J, E, q1, q2, q3, e1, e2, e3, e4⟩ := key I (by omega) hbe
    have e0 : IntKind.i64.wrap ((N : Int) + 1) = (I : Int) := by rw [show (N : Int) + 1 = (I : Int) from by omega]; exact IntWalk.i64_in _ (by omega)
    have hcut := cut_any a l.length c I E (by omega) (by omega)
    have HE := hid_of e4
    have HQ := hid_of q3
    have HQ1 := hid_of (show I + J ≤ l.length from by omega)
    clear hbe ho hpok key e4 q1 q2 q3 hI hN1 hpl hc
    go_enter Tryd.func19, Tryd.ntmps19
    go_wp2_with fail
    refine H1.out.mono ?_
    rintro e w1 hw1
    obtain ⟨rfl, b1⟩ := hw1
    have B1 := hid_of b1
    clear b1 H1
    go_wp2_with fail
    go_ret
    refine ⟨.slice (ca a c I) (E - I) (c - I), rfl, ?_, B1.out⟩
    rw [HE.out, HQ.out]
    exact FC.piece (HF.out.below B1.out) I J HQ1.out
  | false =>
    rw [ho] at H1
    rw [ho, if_neg (by decide)] at hbe
    obtain ⟨D, J, E, q1, q2, q3, e1, e2, e3, e4⟩ := key N (by omega) hbe
    have hcut := cut_any a l.length c N E (by omega) (by omega)
    have HE := hid_of e4
    have HQ := hid_of q3
    have HQ1 := hid_of (show N + J ≤ l.length from by omega)
    clear hbe ho hpok key e4 q1 q2 q3 hpl hc
    go_enter Tryd.func19, Tryd.ntmps19
    go_wp2_with fail
    refine H1.out.mono ?_
    rintro e w1 hw1
    obtain ⟨rfl, b1⟩ := hw1
    have B1 := hid_of b1
    clear b1 H1
    go_wp2_with fail
    go_ret
    refine ⟨.slice (ca a c N) (E - N) (c - N), rfl, ?_, B1.out⟩
    rw [HE.out, HQ.out]
    exact FC.piece (HF.out.below B1.out) N J HQ1.out
def RiE (l : FL) (k : Bs) (n e by' : Int) (w : World) (x : Ending) (w' : World) : Prop := ∃ v', x = .returned (.tuple #[v', .int .i64 (incrS l k n e by').2.1, .int .i64 (incrS l k n e by').2.2]) ∧ FC w' v' (incrS l k n e by').1 ∧ Below w.heap.size w w'
set_option maxHeartbeats 4000000 in
set_option maxRecDepth 100000 in
theorem rincr_call (v : Value) (l : FL) (k : Bs) (n e by' : Int) (w : World) (h : FC w v l) (hr : Ris l) (hl : l.length < 4398046511103) (hb : ∀ p ∈ l, p.2.length ≤ 140737488351232) (hi : NumMath.InI by') (HP : Pd l k n e) : Calls Tryd.prog 15 #[v, .string (mk k), .int .i64 by'] w fun x w' => RiE l k n e by' w x w' := by
  have H1 := hid_of (rget_call v l k w h.fs hr (by omega))
  obtain ⟨hin, he⟩ := pd_in HP
  have HF := hid_of h
  have HR := hid_of hr
  have HBY := hid_of hi
  have HIN := hid_of hin
  have tail : ∀ (S : Int), NumMath.InI S → ∀ w1, Below w.heap.size w w1 → Calls Tryd.prog 11 #[v, .string (mk k), .string (mk (itoa S))] w1 fun x w' => RsE (withL l k (itoa S)) (!ok l k) w1 x w' := fun S hS w1 b1 => rset_call v l k (itoa S) w1 (h.below b1) hr hl
  have HT := hid_of tail
  have H2 : Hid (∀ w1, Calls Tryd.prog 27 #[.int .i64 n, .int .i64 by'] w1 fun x w' => x = .returned (.tuple #[.int .i64 (NumMath.outV (n + by')), .int .i64 (NumMath.outE (n + by'))]) ∧ w' = w1) := hid_of fun w1 => RefArith.add_any n by' w1 hin hi
  clear tail
  cases hlk : lkp l k with
  | none =>
    have e1 : ok l k = false := by unfold ok; rw [hlk]; rfl
    have e2 : valS l k = ⟨#[]⟩ := by unfold valS; rw [hlk]; rfl
    rw [e1, e2] at H1
    unfold Pd at HP
    rw [hlk] at HP
    obtain ⟨rfl, rfl⟩ := HP
    cases hf : NumMath.fitB (0 + by') with
    | true =>
      rw [NumMath.outV_pos hf, NumMath.outE_pos hf] at H2
      have HI : Hid (incrS l k 0 0 by' = (withL l k (itoa (0 + by')), 0 + by', 0)) := by show _ = _; unfold incrS; rw [if_pos rfl, if_pos hf]
      have HS := hid_of ((NumMath.fitB_iff _).1 hf)
      obtain ⟨S, hS⟩ : ∃ S, S = 0 + by' := ⟨_, rfl⟩
      rw [← hS] at H2 HI HS
      have H4 : Hid (∀ w1, Calls Tryd.prog 28 #[.int .i64 S] w1 fun x w' => x = .returned (.string (mk (itoa S))) ∧ Below w1.heap.size w1 w') := hid_of fun w1 => Print.rprint_any S w1 HS.out
      have H5 := hid_of (HT.out S HS.out)
      clear h hr hb hin hi hf hS HT e1 e2 hlk
      generalize hT : mk (itoa S) = T at *
      clear hT
      go_enter Tryd.func15, Tryd.ntmps15
      go_wp2_with fail
      refine H1.out.mono ?_
      rintro x w1 hw1
      obtain ⟨rfl, b1⟩ := hw1
      have B1 := hid_of b1
      clear b1 H1
      have H2' := hid_of (H2.out w1)
      have H4' := hid_of (H4.out w1)
      clear H2 H4
      go_wp2_with fail
      refine H2'.out.mono ?_
      rintro x w3 hw3
      obtain ⟨rfl, rfl⟩ := hw3
      go_wp2_with fail
      refine H4'.out.mono ?_
      rintro x w4 hw4
      obtain ⟨rfl, b4⟩ := hw4
      have B4 := hid_of (Base.bel B1.out b4 (Nat.le_refl _))
      have H5' := hid_of (H5.out w4 B4.out)
      clear b4 H5
      go_wp2_with fail
      refine H5'.out.mono ?_
      rintro x w5 ⟨v5, rfl, f5, b5⟩
      have F5 := hid_of f5
      have B5 := hid_of (Base.bel B4.out b5 (Nat.le_refl _))
      clear f5 b5
      go_wp2_with fail
      refine bodyPost_ret (v := .tuple #[v5, .int .i64 S, .int .i64 0]) (by simp [results, Tryd.results15, go_sem]) rfl ?_
      unfold RiE
      rw [HI.out]
      exact ⟨v5, rfl, F5.out, B5.out⟩
    | false =>
      rw [NumMath.outV_neg hf, NumMath.outE_neg hf] at H2
      have HI : Hid (incrS l k 0 0 by' = (l, 0, 11)) := by show _ = _; unfold incrS; rw [if_pos rfl, if_neg (by rw [hf]; decide)]
      clear h hr hb hin hi hf HT e1 e2 hlk
      go_enter Tryd.func15, Tryd.ntmps15
      go_wp2_with fail
      refine H1.out.mono ?_
      rintro x w1 hw1
      obtain ⟨rfl, b1⟩ := hw1
      have B1 := hid_of b1
      clear b1 H1
      have H2' := hid_of (H2.out w1)
      clear H2
      go_wp2_with fail
      refine H2'.out.mono ?_
      rintro x w3 hw3
      obtain ⟨rfl, rfl⟩ := hw3
      go_wp2_with fail
      refine bodyPost_ret (v := .tuple #[v, .int .i64 0, .int .i64 11]) (by simp [results, Tryd.results15, go_sem]) rfl ?_
      unfold RiE
      rw [HI.out]
      exact ⟨v, rfl, HF.out.below B1.out, B1.out⟩
  | some u =>
    have e1 : ok l k = true := by unfold ok; rw [hlk]; rfl
    have e2 : valS l k = mk u := by unfold valS; rw [hlk]; rfl
    rw [e1, e2] at H1
    unfold Pd at HP
    rw [hlk] at HP
    have H6 : Hid (∀ w1, Calls Tryd.prog 26 #[.string (mk u)] w1 fun x w' => x = .returned (.tuple #[.int .i64 n, .int .i64 e]) ∧ w' = w1) := hid_of fun w1 => RefParse.rparse_any (mk u) w1 n e (by rw [mk_size]; exact hb _ (lkp_mem hlk)) HP
    clear HP
    generalize mk u = U at *
    rcases he with rfl | rfl
    · cases hf : NumMath.fitB (n + by') with
      | true =>
        rw [NumMath.outV_pos hf, NumMath.outE_pos hf] at H2
        have HI : Hid (incrS l k n 0 by' = (withL l k (itoa (n + by')), n + by', 0)) := by show _ = _; unfold incrS; rw [if_pos rfl, if_pos hf]
        have HS := hid_of ((NumMath.fitB_iff _).1 hf)
        obtain ⟨S, hS⟩ : ∃ S, S = n + by' := ⟨_, rfl⟩
        rw [← hS] at H2 HI HS
        have H4 : Hid (∀ w1, Calls Tryd.prog 28 #[.int .i64 S] w1 fun x w' => x = .returned (.string (mk (itoa S))) ∧ Below w1.heap.size w1 w') := hid_of fun w1 => Print.rprint_any S w1 HS.out
        have H5 := hid_of (HT.out S HS.out)
        clear h hr hb hin hi hf hS HT e1 e2 hlk
        generalize hT : mk (itoa S) = T at *
        clear hT
        go_enter Tryd.func15, Tryd.ntmps15
        go_wp2_with fail
        refine H1.out.mono ?_
        rintro x w1 hw1
        obtain ⟨rfl, b1⟩ := hw1
        have B1 := hid_of b1
        clear b1 H1
        have H6' := hid_of (H6.out w1)
        clear H6
        go_wp2_with fail
        refine H6'.out.mono ?_
        rintro x w2 hw2
        obtain ⟨rfl, rfl⟩ := hw2
        have H2' := hid_of (H2.out w2)
        have H4' := hid_of (H4.out w2)
        clear H2 H4
        go_wp2_with fail
        refine H2'.out.mono ?_
        rintro x w3 hw3
        obtain ⟨rfl, rfl⟩ := hw3
        go_wp2_with fail
        refine H4'.out.mono ?_
        rintro x w4 hw4
        obtain ⟨rfl, b4⟩ := hw4
        have B4 := hid_of (Base.bel B1.out b4 (Nat.le_refl _))
        have H5' := hid_of (H5.out w4 B4.out)
        clear b4 H5
        go_wp2_with fail
        refine H5'.out.mono ?_
        rintro x w5 ⟨v5, rfl, f5, b5⟩
        have F5 := hid_of f5
        have B5 := hid_of (Base.bel B4.out b5 (Nat.le_refl _))
        clear f5 b5
        go_wp2_with fail
        refine bodyPost_ret (v := .tuple #[v5, .int .i64 S, .int .i64 0]) (by simp [results, Tryd.results15, go_sem]) rfl ?_
        unfold RiE
        rw [HI.out]
        exact ⟨v5, rfl, F5.out, B5.out⟩
      | false =>
        rw [NumMath.outV_neg hf, NumMath.outE_neg hf] at H2
        have HI : Hid (incrS l k n 0 by' = (l, 0, 11)) := by show _ = _; unfold incrS; rw [if_pos rfl, if_neg (by rw [hf]; decide)]
        clear h hr hb hin hi hf HT e1 e2 hlk
        go_enter Tryd.func15, Tryd.ntmps15
        go_wp2_with fail
        refine H1.out.mono ?_
        rintro x w1 hw1
        obtain ⟨rfl, b1⟩ := hw1
        have B1 := hid_of b1
        clear b1 H1
        have H6' := hid_of (H6.out w1)
        clear H6
        go_wp2_with fail
        refine H6'.out.mono ?_
        rintro x w2 hw2
        obtain ⟨rfl, rfl⟩ := hw2
        have H2' := hid_of (H2.out w2)
        clear H2
        go_wp2_with fail
        refine H2'.out.mono ?_
        rintro x w3 hw3
        obtain ⟨rfl, rfl⟩ := hw3
        go_wp2_with fail
        refine bodyPost_ret (v := .tuple #[v, .int .i64 0, .int .i64 11]) (by simp [results, Tryd.results15, go_sem]) rfl ?_
        unfold RiE
        rw [HI.out]
        exact ⟨v, rfl, HF.out.below B1.out, B1.out⟩
    · have HI : Hid (incrS l k n 10 by' = (l, 0, 10)) := by show _ = _; unfold incrS; rw [if_neg (by decide)]
      clear h hr hb hin hi HT H2 e1 e2 hlk
      go_enter Tryd.func15, Tryd.ntmps15
      go_wp2_with fail
      refine H1.out.mono ?_
      rintro x w1 hw1
      obtain ⟨rfl, b1⟩ := hw1
      have B1 := hid_of b1
      have H6' := hid_of (H6.out w1)
      clear b1 H1 H6
      go_wp2_with fail
      refine H6'.out.mono ?_
      rintro x w2 hw2
      obtain ⟨rfl, rfl⟩ := hw2
      go_wp2_with fail
      refine bodyPost_ret (v := .tuple #[v, .int .i64 0, .int .i64 10]) (by simp [results, Tryd.results15, go_sem]) rfl ?_
      unfold RiE
      rw [HI.out]
      exact ⟨v, rfl, HF.out.below B1.out, B1.out⟩
end Go.Proofs.YtolihcgpnoacaaaDoor.RefB
