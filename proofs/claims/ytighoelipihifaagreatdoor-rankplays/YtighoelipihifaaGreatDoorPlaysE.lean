/- The document's Drop, Set, Place. -/
import Derived.Test.YtighoelipihifaaGreatDoorPlaysC
import Derived.Test.YtighoelipihifaaGreatDoorRef1
namespace Go.Proofs.YtighoelipihifaaGreatDoor.PlaysE
open Go.RowKit Go.Maps Go.Sort
open Go.Proofs.YtighoelipihifaaGreatDoor.MapMath
open Go.Proofs.YtighoelipihifaaGreatDoor.RankMath
open Go.Proofs.YtighoelipihifaaGreatDoor.RankMath2
open Go.Proofs.YtighoelipihifaaGreatDoor.RankMath3
open Go.Proofs.YtighoelipihifaaGreatDoor.Base
open Go.Proofs.YtighoelipihifaaGreatDoor.Cmp
open Go.Proofs.YtighoelipihifaaGreatDoor.Run
open Go.Proofs.YtighoelipihifaaGreatDoor.Ref1
open Go.Proofs.YtighoelipihifaaGreatDoor.PlaysA
open Go.Proofs.YtighoelipihifaaGreatDoor.PlaysC
set_option linter.unusedVariables false
set_option linter.unusedSimpArgs false
theorem find_no {l : EL} {k : Bs} (h : ok l k = false) : findI l k = -1 := by unfold findI; rw [h]; rfl
theorem find_yes {l : EL} {k : Bs} (h : ok l k = true) : findI l k = (plc l k : Int) := by unfold findI; rw [h]; rfl
theorem wout_cut {l : EL} (u : Uq l) {k : Bs} (h : ok l k = true) : l.take (plc l k) ++ l.drop (plc l k + 1) = wout l k := by
  obtain ⟨p, hp, rfl⟩ := ok_iff.1 h
  obtain ⟨L, R, rfl⟩ := split_at hp
  rw [plc_at u]
  unfold wout
  have hu : ∀ q ∈ L ++ R, (q.1 == p.1) = false := fun q hq => by
    cases e : (q.1 == p.1) with
    | false => rfl
    | true =>
      exfalso
      have e' : q.1 = p.1 := by simpa using e
      unfold Uq at u
      rw [List.map_append, List.map_cons, List.nodup_append] at u
      obtain ⟨_, u2, u3⟩ := u
      rcases List.mem_append.1 hq with hq | hq
      · exact u3 q.1 (List.mem_map_of_mem hq) p.1 (List.mem_cons_self) e'
      · exact (List.nodup_cons.1 u2).1 (by rw [← e']; exact List.mem_map_of_mem hq)
  rw [List.take_left' rfl, show (L ++ p :: R).drop (L.length + 1) = R by simp, List.filter_append, List.filter_cons]
  rw [List.filter_eq_self.2 (fun q hq => by rw [hu q (List.mem_append_left _ hq)]; rfl)]
  simp only [beq_self_eq_true, Bool.not_true, Bool.false_eq_true, if_false]
  rw [List.filter_eq_self.2 (fun q hq => by rw [hu q (List.mem_append_right _ hq)]; rfl)]
set_option maxHeartbeats 1000000 in
set_option maxRecDepth 100000 in
theorem rdrop_call (B : Nat) (v : Value) (l : EL) (k : Bs) (w : World) (h : FS w v l) (hk : Kp B w v) (u : Uq l) (hn : l.length ≤ big) : Calls Tryz.prog 36 #[v, .string (mk k)] w fun e w' => ∃ v', e = .returned (.tuple #[v', .bool (ok l k)]) ∧ FS w' v' (wout l k) ∧ Kp B w' v' ∧ Below w.heap.size w w' := by
  have hn9 : l.length ≤ 9000000000000 := hn
  have HF := hid_of h
  have HK := hid_of hk
  have HR := hid_of (rfind_call v l k w h hn)
  obtain ⟨a, c, rfl, hc, h'⟩ := h
  clear h' hk
  cases ho : ok l k with
  | false =>
    rw [find_no ho] at HR
    have HW := hid_of (wout_no ho)
    clear ho
    generalize mk k = K at *
    go_enter Tryz.func36, Tryz.ntmps36
    go_wp2_with fail
    refine HR.out.mono ?_
    rintro e w1 ⟨rfl, rfl⟩
    go_wp2_with fail
    go_ret2
    exact ⟨_, rfl, by rw [HW.out]; exact HF.out, HK.out, Below.refl _ _⟩
  | true =>
    rw [find_yes ho] at HR
    have hpl := plc_lt ho
    have HW := hid_of (wout_cut u ho)
    generalize plc l k = P at *
    obtain ⟨v2, w2, hr2, bd2⟩ := bd_app (bd_start w) (.slice a P c) (l.take P) (HF.out.take P (by omega)) (by rw [List.length_take]; simp only [List.length_nil]; unfold big at *; omega)
    rw [List.nil_append] at bd2
    obtain ⟨a2, c2, hv2, _⟩ := fs_row bd2.row
    rw [List.length_take, Nat.min_eq_left (by omega)] at hv2
    subst hv2
    obtain ⟨v3, w3, hr3, bd3⟩ := bd_app bd2 (.slice (ca a c (P + 1)) (l.length - (P + 1)) (c - (P + 1))) (l.drop (P + 1)) ((HF.out.drop (P + 1) (by omega)).below bd2.bel) (by rw [List.length_take, List.length_drop]; unfold big at *; omega)
    rw [HW.out] at bd3
    obtain ⟨a3, c3, hv3, _⟩ := fs_row bd3.row
    subst hv3
    have B3 := hid_of bd3
    have e1 : IntKind.i64.wrap ((P : Int) + 1) = (P : Int) + 1 := IntWalk.i64_in _ (by omega)
    have hcut1 := cut_hi a l.length c P (by omega)
    have hcut2 : ∀ W, (Instr.slice 22 (.slice a l.length c) (some (.int .i64 ((P : Int) + 1))) none none).run Tryz.prog W = .ok (.slice (ca a c (P + 1)) (l.length - (P + 1)) (c - (P + 1))) W := fun W => by
      have := cut_lo a l.length c (P + 1) (by omega) W
      rwa [show ((P + 1 : Nat) : Int) = (P : Int) + 1 by omega] at this
    have hnn : ¬ (P : Int) < 0 := by omega
    clear ho bd2 bd3 HW u
    generalize mk k = K at *
    go_enter Tryz.func36, Tryz.ntmps36
    go_wp2_with fail
    refine HR.out.mono ?_
    rintro e w1 ⟨rfl, rfl⟩
    go_wp2_with (first
      | (at_builtin; refine wpl_eq rfl _ _ 22 22 rfl (.slice none 0 0) (.slice a P c) (.slice a2 P c2) _ w2 rfl rfl hr2 ?_; clear hr2)
      | (at_builtin; refine wpl_eq rfl _ _ 22 22 rfl (.slice a2 P c2) (.slice (ca a c (P + 1)) (l.length - (P + 1)) (c - (P + 1))) (.slice a3 _ c3) _ w3 rfl rfl hr3 ?_; clear hr3))
    go_ret2
    exact ⟨_, rfl, fs_row B3.out.row, kp_row B3.out.row, B3.out.bel⟩
set_option maxHeartbeats 1000000 in
set_option maxRecDepth 100000 in
theorem rset_call (B : Nat) (v : Value) (l : EL) (k : Bs) (n : Int) (w : World) (h : FS w v l) (hk : Kp B w v) (s : Srt l) (u : Uq l) (hn : l.length < big) (hm : May n) : Calls Tryz.prog 35 #[v, .string (mk k), .int .i64 n] w fun e w' => ∃ v', e = .returned (.tuple #[v', .bool (!ok l k), .int .i64 0]) ∧ FS w' v' (setE l k n) ∧ Kp B w' v' ∧ Below w.heap.size w w' := by
  have hnb : l.length < 9000000000000 := hn
  have H0 := hid_of (rmay_call n w)
  rw [decide_eq_true hm] at H0
  have H1 := hid_of (rdrop_call B v l k w h hk u (Nat.le_of_lt hn))
  have HP := hid_of fun (W : World) (v1 : Value) (f1 : FS W v1 (wout l k)) => rput_call v1 (wout l k) (k, n) W f1 (wout_srt s k) (Nat.lt_of_le_of_lt (List.length_filter_le _ _) hn)
  obtain ⟨a, c, rfl, hc, h'⟩ := h
  clear h' hk
  unfold eV at HP
  dsimp only at HP
  generalize hok : ok l k = O at *
  generalize hK : mk k = K at *
  go_enter Tryz.func35, Tryz.ntmps35
  go_wp2_with fail
  refine H0.out.mono ?_
  rintro e w0 ⟨rfl, rfl⟩
  go_wp2_with fail
  refine H1.out.mono ?_
  rintro e w1 ⟨v1, rfl, f1, k1, b1⟩
  have H2 := hid_of (HP.out w1 v1 f1)
  have B1 := hid_of b1
  obtain ⟨a1, c1, rfl, _⟩ := id f1
  clear f1 k1 b1
  go_wp2_with fail
  refine H2.out.mono ?_
  rintro e w2 ⟨v2, rfl, o2, b2⟩
  have O2 := hid_of (And.intro o2 (Base.bel B1.out b2 (Nat.le_refl _)))
  obtain ⟨a2, c2, hv2, _⟩ := id (fs_row o2)
  subst hv2
  clear o2 b2
  go_wp2_with fail
  go_ret3
  exact ⟨_, rfl, fs_row O2.out.1, kp_row O2.out.1, O2.out.2⟩
set_option maxRecDepth 100000 in
theorem rset_no (v : Value) (l : EL) (k : Bs) (n : Int) (w : World) (h : FS w v l) (hm : ¬ May n) : Calls Tryz.prog 35 #[v, .string (mk k), .int .i64 n] w fun e w' => e = .returned (.tuple #[v, .bool false, .int .i64 120]) ∧ w' = w := by
  have H0 := hid_of (rmay_call n w)
  rw [decide_eq_false hm] at H0
  obtain ⟨a, c, rfl, hc, h'⟩ := h
  clear h'
  generalize hK : mk k = K at *
  go_enter Tryz.func35, Tryz.ntmps35
  go_wp2_with fail
  refine H0.out.mono ?_
  rintro e w0 ⟨rfl, rfl⟩
  go_wp2_with fail
  go_ret3
  exact ⟨rfl, rfl⟩
theorem kp_some (w : World) (v : Value) : ∃ B, Kp B w v := by
  by_cases h : ∃ (p : Addr) (n c : Nat), v = .slice (some p) n c
  · obtain ⟨p, n, c, rfl⟩ := h
    exact ⟨p.block + 1, fun p' n' c' e => by injection e with e; injection e with e; subst e; exact .inl (Nat.lt_succ_self _)⟩
  · exact ⟨0, fun p n c e => absurd ⟨p, n, c, e⟩ h⟩
set_option maxRecDepth 100000 in
theorem rplace_call (v : Value) (l : EL) (k : Bs) (r : Bool) (w : World) (h : FS w v l) (hn : l.length ≤ big) : Calls Tryz.prog 37 #[v, .string (mk k), .bool r] w fun e w' => e = .returned (.tuple #[.int .i64 (max 0 (findI (way l r) k)), .bool (decide (0 ≤ findI (way l r) k))]) ∧ Below w.heap.size w w' := by
  obtain ⟨B, hB⟩ := kp_some w v
  have H1 := hid_of (way_call B v l r w h hB hn)
  have HF := hid_of fun (W : World) (v1 : Value) (f1 : FS W v1 (way l r)) => rfind_call v1 (way l r) k W f1 (by rw [way_len]; exact hn)
  obtain ⟨a, c, rfl, hc, h'⟩ := h
  clear h' hB
  generalize hK : mk k = K at *
  generalize hI : findI (way l r) k = I at *
  by_cases q : 0 ≤ I
  · have hm : max 0 I = I := by omega
    have HD : Hid (decide (0 ≤ I) = true) := hid_of (decide_eq_true q)
    go_enter Tryz.func37, Tryz.ntmps37
    go_wp2_with fail
    refine H1.out.mono ?_
    rintro e w1 ⟨v1, rfl, f1, k1, b1⟩
    have H2 := hid_of (HF.out w1 v1 f1)
    have B1 := hid_of b1
    obtain ⟨a1, c1, rfl, _⟩ := id f1
    clear f1 k1 b1
    go_wp2_with fail
    refine H2.out.mono ?_
    rintro e w2 ⟨rfl, rfl⟩
    go_wp2_with fail
    go_ret2
    exact ⟨by rw [HD.out, hm]; first | rfl | simp [q], B1.out⟩
  · have hm : max 0 I = 0 := by omega
    have HD : Hid (decide (0 ≤ I) = false) := hid_of (decide_eq_false q)
    go_enter Tryz.func37, Tryz.ntmps37
    go_wp2_with fail
    refine H1.out.mono ?_
    rintro e w1 ⟨v1, rfl, f1, k1, b1⟩
    have H2 := hid_of (HF.out w1 v1 f1)
    have B1 := hid_of b1
    obtain ⟨a1, c1, rfl, _⟩ := id f1
    clear f1 k1 b1
    go_wp2_with fail
    refine H2.out.mono ?_
    rintro e w2 ⟨rfl, rfl⟩
    go_wp2_with fail
    go_ret2
    exact ⟨by rw [HD.out, hm]; first | rfl | simp [q], B1.out⟩
end Go.Proofs.YtighoelipihifaaGreatDoor.PlaysE
