/- The law DictPlays: what every row of calls answers, on all fields. -/
import Derived.Test.YtolihcgpnoacaaaDoorRefB
namespace Go.Proofs.YtolihcgpnoacaaaDoor.Plays
open Go.RowKit Go.Maps Go.Sort
open Go.Lib (itoa)
open Go.Proofs.YtolihcgpnoacaaaDoor.DictMath
open Go.Proofs.YtolihcgpnoacaaaDoor.Base
open Go.Proofs.YtolihcgpnoacaaaDoor.Small
open Go.Proofs.YtolihcgpnoacaaaDoor.Of
open Go.Proofs.YtolihcgpnoacaaaDoor.Fields
open Go.Proofs.YtolihcgpnoacaaaDoor.Same
open Go.Proofs.YtolihcgpnoacaaaDoor.Incr
open Go.Proofs.YtolihcgpnoacaaaDoor.Nobody
open Go.Proofs.YtolihcgpnoacaaaDoor.Sure
open Go.Proofs.YtolihcgpnoacaaaDoor.Back
open Go.Proofs.YtolihcgpnoacaaaDoor.RefA
open Go.Proofs.YtolihcgpnoacaaaDoor.RefB
open Go.Proofs.YtolihcgpnoacaaaDoor.Parse
set_option linter.unusedVariables false

structure OpD where
  K : Int
  k : Bs
  u : Bs
  N : Int
def opOk (o : OpD) : Prop := o.k.length ≤ 1048576 ∧ o.u.length ≤ 1048576 ∧ -9223372036854775808 ≤ o.N ∧ o.N ≤ 9223372036854775807
def OS (w : World) (v : Value) (ops : List OpD) : Prop := ∃ a c, v = .slice a ops.length c ∧ (ops = [] ∨ ∃ g o, a = some ⟨g, o, none⟩ ∧ ∀ i (h : i < ops.length), w.cell? ⟨g, o + i * 4, none⟩ = some (.int .i64 (ops[i]'h).K) ∧ w.cell? ⟨g, o + i * 4 + 1, none⟩ = some (.string (mk (ops[i]'h).k)) ∧ w.cell? ⟨g, o + i * 4 + 2, none⟩ = some (.string (mk (ops[i]'h).u)) ∧ w.cell? ⟨g, o + i * 4 + 3, none⟩ = some (.int .i64 (ops[i]'h).N))
/- the dict beside the document's list -/
structure Ps (w0 : World) (b m : Nat) (n : Nat) (L : FL) (v : Value) (w : World) : Prop where
  st : St w0.heap.size w0 b m L w
  fc : FC w v L
  len : L.length ≤ n
  szs : ∀ p ∈ L, p.1.length ≤ 140737488351232 ∧ p.2.length ≤ 140737488351232
theorem Ps.below {w0 : World} {b m n : Nat} {L : FL} {v : Value} {w w' : World} (h : Ps w0 b m n L v w) (hb : Below w.heap.size w w') : Ps w0 b m n L v w' := ⟨h.st.below (Nat.le_refl _) hb, h.fc.below hb, h.len, h.szs⟩
theorem Ps.more {w0 : World} {b m n : Nat} {L : FL} {v : Value} {w : World} (h : Ps w0 b m n L v w) : Ps w0 b m (n + 1) L v w := ⟨h.st, h.fc, Nat.le_succ_of_le h.len, h.szs⟩
/- the document's list has gone on, then the dict -/
theorem ps_go {w0 : World} {b m n : Nat} {L L' : FL} {v v' : Value} {w w1 w2 : World} (h : Ps w0 b m n L v w) (hb : Below w.heap.size w w1) (f1 : FC w1 v' L') (d2 : DK b m L' w2) (m2 : Mv m w1 w2) (hl : L'.length ≤ n + 1) (hs : ∀ p ∈ L', p.1.length ≤ 140737488351232 ∧ p.2.length ≤ 140737488351232) : Ps w0 b m (n + 1) L' v' w2 :=
  ⟨(h.st.below (Nat.le_refl _) hb).mv (Nat.le_refl _) d2 m2, f1.mv m2, hl, hs⟩
theorem with_szs {L : FL} {k u : Bs} (h : ∀ p ∈ L, p.1.length ≤ 140737488351232 ∧ p.2.length ≤ 140737488351232) (hk : k.length ≤ 140737488351232) (hu : u.length ≤ 140737488351232) : ∀ p ∈ withL L k u, p.1.length ≤ 140737488351232 ∧ p.2.length ≤ 140737488351232 := fun p hp => by
  rcases with_mem hp with rfl | hp
  · exact ⟨hk, hu⟩
  · exact h p hp
theorem incr_szs {L : FL} {k : Bs} {n e N : Int} (h : ∀ p ∈ L, p.1.length ≤ 140737488351232 ∧ p.2.length ≤ 140737488351232) (hk : k.length ≤ 140737488351232) : ∀ p ∈ (incrS L k n e N).1, p.1.length ≤ 140737488351232 ∧ p.2.length ≤ 140737488351232 := by
  unfold incrS
  split
  · split
    · rename_i hf
      exact with_szs h hk (by have := itoa_len _ ((NumMath.fitB_iff _).1 hf); omega)
    · exact h
  · exact h
theorem incr_len (L : FL) (k : Bs) (n e N : Int) : (incrS L k n e N).1.length ≤ L.length + 1 := by
  unfold incrS
  split
  · split
    · exact with_len L k _
    · exact Nat.le_succ _
  · exact Nat.le_succ _
theorem bne_self' (x : Bool) : (x != x) = false := by cases x <;> rfl
def ZE (w0 : World) (b m n : Nat) (L : FL) (v : Value) (R : FL) (W0 : World) (e : Ending) (w' : World) : Prop := ∃ r, e = .returned r ∧ Hid (FS w' r R ∧ Below W0.heap.size W0 w')
set_option maxHeartbeats 16000000 in
set_option maxRecDepth 100000 in
theorem plays_yes (v y : Value) (l : FL) (ops : List OpD) (w : World) (h : Gv w v l) (hc : ∃ a c, v = .slice a l.length c ∧ l.length ≤ c) (hy : OS w y ops) (hop : ∀ o ∈ ops, opOk o) (hr : Ris l) (hl : l.length ≤ 1048576) (hol : ops.length ≤ 1048576) (hh : Has w) : Calls Tryd.prog 3 #[v, y] w fun e w' => e = .returned (.bool true) ∧ Below w.heap.size w w' := by
  have HH := hid_of hh
  have H1 := hid_of (of_yes v l w h.fs (by omega) hr h.big)
  have H2 : Hid (∀ w1, Below w.heap.size w w1 → Calls Tryd.prog 9 #[v] w1 fun e w' => e = .returned (.bool true) ∧ Below w1.heap.size w1 w') := hid_of fun w1 b1 => by
    have := rises_call v l w1 (h.fs.below b1) (by omega)
    rw [decide_eq_true hr] at this
    exact this
  have HG := hid_of (show FC w v l from ⟨h.fs, hc⟩)
  have HSZ := hid_of h.szs
  have H8 := hid_of sure_call
  have HOP := hid_of hop
  obtain ⟨ya, yc, rfl, hyc⟩ := hy
  have HY := hid_of hyc
  clear h hr hh hyc hop hc
  go_enter Tryd.func3, Tryd.ntmps3
  go_wp2_with fail
  refine H1.out.mono ?_
  rintro e w1 ⟨b, m, rfl, d1, lb, lm, bb⟩
  have S1 : Hid (St w.heap.size w b m l w1) := hid_of ⟨d1, lb, lm, bb⟩
  have H2' := hid_of (H2.out w1 bb)
  clear d1 lb lm bb H1 H2
  unfold ptr
  go_wp2_with fail
  refine H2'.out.mono ?_
  rintro e w2 hw2
  obtain ⟨rfl, bb⟩ := hw2
  have S2 := hid_of (S1.out.below (Nat.le_refl _) bb)
  have P2 : Hid (Ps w b m l.length l v w2) := hid_of ⟨S2.out, HG.out.below S2.out.bel, Nat.le_refl _, HSZ.out⟩
  have q24 : ∀ w, (binOp .neq 24 (.pointer (some ⟨b, 0, none⟩)) (.pointer none)).run Tryd.prog w = .ok (.bool true) w := fun w => by kernel_rfl
  clear bb H2' S1 S2
  go_wp2_with fail
  clear q24
  go_loopg [8, 9] ops.length (fun g sm si wx => ∃ (i : Nat) (L : FL), i ≤ ops.length ∧ ops.length ≤ i + g ∧ si = .int .i64 (i : Int) ∧ Hid (Ps w b m (l.length + i) L sm wx))
  case atStart => exact ⟨0, l, by omega, by omega, rfl, P2⟩
  case round =>
    obtain ⟨i, L, hi, hg, rfl, HP⟩ := hrel
    by_cases hlt : i < ops.length
    · obtain ⟨g', rfl⟩ : ∃ g', gk = g' + 1 := ⟨gk - 1, by omega⟩
      obtain ⟨ga, oa, rfl, ha⟩ : ∃ g o, ya = some ⟨g, o, none⟩ ∧ ∀ i (h : i < ops.length), w.cell? ⟨g, o + i * 4, none⟩ = some (.int .i64 (ops[i]'h).K) ∧ w.cell? ⟨g, o + i * 4 + 1, none⟩ = some (.string (mk (ops[i]'h).k)) ∧ w.cell? ⟨g, o + i * 4 + 2, none⟩ = some (.string (mk (ops[i]'h).u)) ∧ w.cell? ⟨g, o + i * 4 + 3, none⟩ = some (.int .i64 (ops[i]'h).N) := by
        rcases HY.out with h | ⟨g, o, e, h⟩
        · subst h; simp at hlt
        · exact ⟨g, o, e, h⟩
      obtain ⟨a0, a1, a2, a3⟩ := ha i hlt
      have hok := HOP.out _ (List.getElem_mem hlt)
      obtain ⟨⟨K, k, u, N⟩, hd⟩ : ∃ d, d = ops[i]'hlt := ⟨_, rfl⟩
      rw [← hd] at a0 a1 a2 a3 hok
      obtain ⟨hk, hu, hN1, hN2⟩ := hok
      dsimp only at a0 a1 a2 a3 hk hu hN1 hN2
      have c0 := cell_on HP.out.st.bel a0
      have c1 := cell_on HP.out.st.bel a1
      have c2 := cell_on HP.out.st.bel a2
      have c3 := cell_on HP.out.st.bel a3
      have g2 : (i : Int) < (ops.length : Int) := by omega
      have e2 : IntKind.i64.wrap ((i : Int) + 1) = (i : Int) + 1 := IntWalk.i64_in _ (by omega)
      have hLl : L.length ≤ 2097152 := by have := HP.out.len; omega
      obtain ⟨W, hW⟩ : ∃ W, W = wr.alloc (.cells #[.int .i64 K, .string (mk k), .string (mk u), .int .i64 N] 31) := ⟨_, rfl⟩
      have hbx : W.heap[wr.heap.size]? = some (.cells #[.int .i64 K, .string (mk k), .string (mk u), .int .i64 N] 31 (0, 0)) := by rw [hW]; exact heap_alloc_new wr _
      have bW : Below wr.heap.size wr W := by rw [hW]; exact (Below.refl _ wr).alloc (Nat.le_refl _) _
      have PW := hid_of (HP.out.below bW)
      obtain ⟨O, hO⟩ : ∃ O, O = wr.heap.size := ⟨_, rfl⟩
      rw [← hO] at hbx
      have d0 : W.cell? ⟨O, 0, none⟩ = some (.int .i64 K) := Lib.cell_of_heap hbx 0
      have d1 : W.cell? ⟨O, 1, none⟩ = some (.string (mk k)) := Lib.cell_of_heap hbx 1
      have d2 : W.cell? ⟨O, 2, none⟩ = some (.string (mk u)) := Lib.cell_of_heap hbx 2
      have d3 : W.cell? ⟨O, 3, none⟩ = some (.int .i64 N) := Lib.cell_of_heap hbx 3
      have HW := hid_of hW
      have HO := hid_of hO
      have CX : Hid (∀ W' : World, (∀ a x, W.cell? a = some x → W'.cell? a = some x) → W'.cell? ⟨O, 1, none⟩ = some (.string (mk k)) ∧ W'.cell? ⟨O, 2, none⟩ = some (.string (mk u)) ∧ W'.cell? ⟨O, 3, none⟩ = some (.int .i64 N)) := hid_of fun W' hh => ⟨hh _ _ d1, hh _ _ d2, hh _ _ d3⟩
      have hkk : k.length ≤ 140737488351232 := by omega
      have huu : u.length ≤ 140737488351232 := by omega
      clear a0 a1 a2 a3 ha hd hbx bW HP hW hO
      by_cases K0 : K = 0
      · subst K0
        have L1 : (withL L k u).length ≤ l.length + i + 1 := by have := with_len L k u; have := PW.out.len; omega
        have H3 := hid_of (rset_call u8 L k u W PW.out.fc PW.out.st.dk.ris (by omega))
        have HFIN : Hid (∀ v' w1 w2, Below W.heap.size W w1 → FC w1 v' (withL L k u) → DK b m (withL L k u) w2 → Mv m w1 w2 → Ps w b m (l.length + (i + 1)) (withL L k u) v' w2) := hid_of fun v' w1 w2 hb f1 dd m2 => ps_go PW.out hb f1 dd m2 L1 (with_szs PW.out.szs hkk huu)
        have H4 : Hid (∀ w1, Below W.heap.size W w1 → Calls Tryd.prog 12 #[ptr b, .string (mk k), .string (mk u)] w1 fun e w' => e = .returned (.bool (!ok L k)) ∧ DK b m (withL L k u) w' ∧ Mv m w1 w') := hid_of fun w1 b1 => set_call b m L (mk k) (mk u) w1 (PW.out.st.dk.below b1) (by rw [mk_size]; omega) (by rw [mk_size]; omega) (by omega)
        have fx := bne_self' (!ok L k)
        unfold ptr at H4
        obtain ⟨L', hL'⟩ : ∃ L', L' = withL L k u := ⟨_, rfl⟩
        rw [← hL'] at H3 H4 HFIN
        clear hL' L1 hu hN1 hN2 hkk huu
        generalize mk k = Kb at *
        generalize mk u = Ub at *
        generalize (!ok L k) = X at *
        go_wp2_with fail
        rw [← HW.out, ← HO.out]
        go_wp2_with fail
        refine H3.out.mono ?_
        rintro e w3 ⟨v3, rfl, f3, b3⟩
        obtain ⟨x1, x2, x3⟩ := CX.out w3 (fun a x hx => cell_on b3 hx)
        have H4' := hid_of (H4.out w3 b3)
        have B3 := hid_of (And.intro b3 f3)
        clear b3 f3 H3 H4
        go_wp2_with fail
        refine H4'.out.mono ?_
        rintro e w4 hw4
        obtain ⟨rfl, dd, m4⟩ := hw4
        have P4 := hid_of (HFIN.out v3 w3 w4 B3.out.1 B3.out.2 dd m4)
        have H9 := hid_of (len_call b m L' w4 P4.out.st.dk)
        have hcap := P4.out.fc.cap
        obtain ⟨aq, cq, hvq, _⟩ := hcap
        subst hvq
        unfold ptr at H9
        clear dd m4 H4' B3 HFIN
        go_wp2_with fail
        refine H9.out.mono ?_
        rintro e w9 hw9
        obtain ⟨rfl, rfl⟩ := hw9
        go_wp2_with fail
        go_roundg g'
        case measure => omega
        case rel => exact ⟨i + 1, L', by omega, by omega, by rw [show ((i + 1 : Nat) : Int) = (i : Int) + 1 from by omega], P4⟩
      · have t0 : (K == 0) = false := by simpa using K0
        clear K0
        by_cases K2 : K = 2
        · subst K2
          have L1 : (wout L k).length ≤ l.length + i + 1 := by have := wout_len L k; have := PW.out.len; omega
          have H3 := hid_of (rdrop_call u8 L k W PW.out.fc PW.out.st.dk.ris (by omega))
          have HFIN : Hid (∀ v' w1 w2, Below W.heap.size W w1 → FC w1 v' (wout L k) → DK b m (wout L k) w2 → Mv m w1 w2 → Ps w b m (l.length + (i + 1)) (wout L k) v' w2) := hid_of fun v' w1 w2 hb f1 dd m2 => ps_go PW.out hb f1 dd m2 L1 (fun p hp => PW.out.szs p (wout_mem hp))
          have H4 : Hid (∀ w1, Below W.heap.size W w1 → Calls Tryd.prog 14 #[ptr b, .string (mk k)] w1 fun e w' => e = .returned (.bool (ok L k)) ∧ DK b m (wout L k) w' ∧ Mv m w1 w') := hid_of fun w1 b1 => drop_call b m L (mk k) w1 (PW.out.st.dk.below b1) (by rw [mk_size]; omega)
          have fx := bne_self' (ok L k)
          unfold ptr at H4
          obtain ⟨L', hL'⟩ : ∃ L', L' = wout L k := ⟨_, rfl⟩
          rw [← hL'] at H3 H4 HFIN
          clear hL' L1 hu hN1 hN2 hkk huu
          generalize mk k = Kb at *
          generalize mk u = Ub at *
          generalize ok L k = X at *
          go_wp2_with fail
          rw [← HW.out, ← HO.out]
          go_wp2_with fail
          refine H3.out.mono ?_
          rintro e w3 ⟨v3, rfl, f3, b3⟩
          obtain ⟨x1, x2, x3⟩ := CX.out w3 (fun a x hx => cell_on b3 hx)
          have H4' := hid_of (H4.out w3 b3)
          have B3 := hid_of (And.intro b3 f3)
          clear b3 f3 H3 H4
          go_wp2_with fail
          refine H4'.out.mono ?_
          rintro e w4 hw4
          obtain ⟨rfl, dd, m4⟩ := hw4
          have P4 := hid_of (HFIN.out v3 w3 w4 B3.out.1 B3.out.2 dd m4)
          have H9 := hid_of (len_call b m L' w4 P4.out.st.dk)
          have hcap := P4.out.fc.cap
          obtain ⟨aq, cq, hvq, _⟩ := hcap
          subst hvq
          unfold ptr at H9
          clear dd m4 H4' B3 HFIN
          go_wp2_with fail
          refine H9.out.mono ?_
          rintro e w9 hw9
          obtain ⟨rfl, rfl⟩ := hw9
          go_wp2_with fail
          go_roundg g'
          case measure => omega
          case rel => exact ⟨i + 1, L', by omega, by omega, by rw [show ((i + 1 : Nat) : Int) = (i : Int) + 1 from by omega], P4⟩
        · have t2 : (K == 2) = false := by simpa using K2
          clear K2
          by_cases K3 : K = 3
          · subst K3
            obtain ⟨pn, pe, hpd⟩ := pd_ex L k
            have hpb : ∀ p ∈ L, p.2.length ≤ 140737488351232 := fun p hp => (PW.out.szs p hp).2
            have hIN : NumMath.InI N := ⟨hN1, hN2⟩
            have L1 : (incrS L k pn pe N).1.length ≤ l.length + i + 1 := by have := incr_len L k pn pe N; have := PW.out.len; omega
            have H3 := hid_of (rincr_call u8 L k pn pe N W PW.out.fc PW.out.st.dk.ris (by omega) hpb hIN hpd)
            have HFIN : Hid (∀ v' w1 w2, Below W.heap.size W w1 → FC w1 v' (incrS L k pn pe N).1 → DK b m (incrS L k pn pe N).1 w2 → Mv m w1 w2 → Ps w b m (l.length + (i + 1)) (incrS L k pn pe N).1 v' w2) := hid_of fun v' w1 w2 hb f1 dd m2 => ps_go PW.out hb f1 dd m2 L1 (incr_szs PW.out.szs hkk)
            have H4 : Hid (∀ w1, Below W.heap.size W w1 → Calls Tryd.prog 16 #[ptr b, .string (mk k), .int .i64 N] w1 fun e w' => e = .returned (.tuple #[.int .i64 (incrS L k pn pe N).2.1, .int .i64 (incrS L k pn pe N).2.2]) ∧ DK b m (incrS L k pn pe N).1 w' ∧ Mv m w1 w') := hid_of fun w1 b1 => incr_call b m L (mk k) pn pe N w1 (PW.out.st.dk.below b1) (by rw [mk_size]; omega) hpb (by omega) hIN hpd (HH.out.later (Base.bel PW.out.st.bel b1 (Nat.le_refl _)))
            unfold RiE at H3
            unfold ptr at H4
            generalize (incrS L k pn pe N).2.1 = X1 at *
            generalize (incrS L k pn pe N).2.2 = X2 at *
            generalize (incrS L k pn pe N).1 = L' at *
            clear L1 hu hN1 hN2 hkk huu hpb hpd hIN
            generalize mk k = Kb at *
            generalize mk u = Ub at *
            go_wp2_with fail
            rw [← HW.out, ← HO.out]
            go_wp2_with fail
            refine H3.out.mono ?_
            rintro e w3 ⟨v3, rfl, f3, b3⟩
            obtain ⟨x1, x2, x3⟩ := CX.out w3 (fun a x hx => cell_on b3 hx)
            have H4' := hid_of (H4.out w3 b3)
            have B3 := hid_of (And.intro b3 f3)
            clear b3 f3 H3 H4
            go_wp2_with fail
            refine H4'.out.mono ?_
            rintro e w4 hw4
            obtain ⟨rfl, dd, m4⟩ := hw4
            have P4 := hid_of (HFIN.out v3 w3 w4 B3.out.1 B3.out.2 dd m4)
            have H9 := hid_of (len_call b m L' w4 P4.out.st.dk)
            have hcap := P4.out.fc.cap
            obtain ⟨aq, cq, hvq, _⟩ := hcap
            subst hvq
            unfold ptr at H9
            clear dd m4 H4' B3 HFIN
            go_wp2_with fail
            refine H9.out.mono ?_
            rintro e w9 hw9
            obtain ⟨rfl, rfl⟩ := hw9
            go_wp2_with fail
            go_roundg g'
            case measure => omega
            case rel => exact ⟨i + 1, L', by omega, by omega, by rw [show ((i + 1 : Nat) : Int) = (i : Int) + 1 from by omega], P4⟩
          · have t3 : (K == 3) = false := by simpa using K3
            clear K3
            by_cases K4 : K = 4
            · subst K4
              obtain ⟨R, hR⟩ : ∃ R, R = (beh L k).take N.toNat := ⟨_, rfl⟩
              have hRl : R.length ≤ 2097152 := by rw [hR, List.length_take]; have := Walk.beh_len L k; omega
              have HC3 : Hid (∀ W', Below W.heap.size W W' → W'.cell? ⟨O, 1, none⟩ = some (.string (mk k)) ∧ W'.cell? ⟨O, 3, none⟩ = some (.int .i64 N)) := hid_of fun W' hb => ⟨cell_on hb d1, cell_on hb d3⟩
              have HA := hid_of (fun (W1 : World) (k1 : Below W.heap.size W W1) => (show Calls Tryd.prog 18 #[ptr b, .string (mk k), .int .i64 N] W1 fun e w' => ∃ r, e = .returned r ∧ Hid (FS w' r R ∧ Below W.heap.size W w' ∧ Below W1.heap.size W1 w') ∧ w'.cell? ⟨O, 1, none⟩ = some (.string (mk k)) ∧ w'.cell? ⟨O, 3, none⟩ = some (.int .i64 N) from by
                have key : Calls Tryd.prog 18 #[ptr b, .string (mk k), .int .i64 N] W1 fun e w' => FldE R W1 e w' := by
                  rw [hR]
                  by_cases hN0 : N ≤ 0
                  · rw [show N.toNat = 0 from by omega, List.take_zero]
                    exact after_no _ _ _ _ hN0
                  · have := after_call b m L (mk k) N W1 (PW.out.st.dk.below k1) (by omega) (by omega) hN2
                    rw [bs_mk] at this
                    exact this
                refine key.mono ?_
                rintro e w' ⟨r, h1, h2, h3⟩
                have k2 := Base.bel k1 h3 (Nat.le_refl _)
                exact ⟨r, h1, ⟨fs_row h2, k2, h3⟩, HC3.out w' k2⟩))
              have HRf := hid_of (fun (W1 : World) (k1 : Below W.heap.size W W1) => (show Calls Tryd.prog 19 #[u8, .string (mk k), .int .i64 N] W1 fun e w' => ∃ r, e = .returned r ∧ Hid (FS w' r R ∧ Below W.heap.size W w' ∧ Below W1.heap.size W1 w') ∧ w'.cell? ⟨O, 1, none⟩ = some (.string (mk k)) ∧ w'.cell? ⟨O, 3, none⟩ = some (.int .i64 N) from by
                have key := rafter_call u8 L k N W1 (PW.out.fc.below k1) PW.out.st.dk.ris (by omega) ⟨hN1, hN2⟩
                rw [← hR] at key
                refine key.mono ?_
                rintro e w' ⟨r, h1, h2, h3⟩
                have k2 := Base.bel k1 h3 (Nat.le_refl _)
                exact ⟨r, h1, ⟨h2.fs, k2, h3⟩, HC3.out w' k2⟩))
              have HSm := hid_of (fun (W1 : World) (r s : Value) (h1 : FS W1 r R) (h2 : FS W1 s R) (k1 : Below W.heap.size W W1) => (show Calls Tryd.prog 17 #[r, s] W1 fun e w' => e = .returned (.bool true) ∧ Hid (Below W.heap.size W w') ∧ w'.cell? ⟨O, 1, none⟩ = some (.string (mk k)) ∧ w'.cell? ⟨O, 3, none⟩ = some (.int .i64 N) from by
                have key := same_call r s R R W1 h1 h2 (by omega) (by omega)
                rw [decide_eq_true (rfl : R = R)] at key
                refine key.mono ?_
                rintro e w' ⟨h3, h4⟩
                have k2 := Base.bel k1 h4 (Nat.le_refl _)
                exact ⟨h3, k2, HC3.out w' k2⟩))
              have KD : Hid (Below W.heap.size W W.drew) := hid_of (Below.refl _ W).drew
              unfold ptr at HA
              clear hu hN1 hN2 hkk huu hR HC3 CX
              generalize mk k = Kb at *
              generalize mk u = Ub at *
              go_wp2_with fail
              rw [← HW.out, ← HO.out]
              go_wp2_with fail
              go_region_held3 (fun V => V.cell? ⟨O, 1, none⟩ = some (.string Kb) ∧ V.cell? ⟨O, 3, none⟩ = some (.int .i64 N)) (first | exact ⟨d1, d3⟩ | exact ⟨z1, z3⟩ | exact ⟨y1, y3⟩ | exact ⟨t1, t3⟩) (first
                | (go_at_call 18; refine (HA.out _ M4.out.2.1).mono ?_; rintro e w5 ⟨r5, rfl, N5, y1, y3⟩)
                | (go_at_call 19; refine (HRf.out _ N3.out.2.1).mono ?_; rintro e w6 ⟨r6, rfl, M6, y1, y3⟩)
                | (go_at_call 18; refine (HA.out _ KD.out).mono ?_; rintro e w3 ⟨r3, rfl, N3, z1, z3⟩)
                | (go_at_call 19; refine (HRf.out _ KD.out).mono ?_; rintro e w4 ⟨r4, rfl, M4, z1, z3⟩)
                | (go_at_call 17; refine (HSm.out _ _ _ (N3.out.1.below M6.out.2.2) M6.out.1 M6.out.2.1).mono ?_; rintro e w7 ⟨rfl, B7, t1, t3⟩)
                | (go_at_call 17; refine (HSm.out _ _ _ N5.out.1 (M4.out.1.below N5.out.2.2) N5.out.2.1).mono ?_; rintro e w7 ⟨rfl, B7, t1, t3⟩))
              all_goals
                have P4 : Hid (Ps w b m (l.length + (i + 1)) L u8 w7) := hid_of (PW.out.below B7.out).more
                have H9 := hid_of (len_call b m L w7 P4.out.st.dk)
                have hcap := P4.out.fc.cap
                obtain ⟨aq, cq, hvq, _⟩ := hcap
                subst hvq
                unfold ptr at H9
                go_wp2_with fail
                refine H9.out.mono ?_
                rintro e w9 hw9
                obtain ⟨rfl, rfl⟩ := hw9
                go_wp2_with fail
                go_roundg g'
                case measure => omega
                case rel => exact ⟨i + 1, L, by omega, by omega, by rw [show ((i + 1 : Nat) : Int) = (i : Int) + 1 from by omega], P4⟩
            · have t4 : (K == 4) = false := by simpa using K4
              clear K4
              by_cases K5 : K = 5
              · subst K5
                have H3 := hid_of (all_fields b m L W PW.out.st.dk (by omega))
                unfold ptr at H3
                clear hu hN1 hN2 hkk huu
                generalize mk k = Kb at *
                generalize mk u = Ub at *
                go_wp2_with fail
                rw [← HW.out, ← HO.out]
                go_wp2_with fail
                refine H3.out.mono ?_
                rintro e w3 ⟨v3, rfl, o3, b3⟩
                have P3 := hid_of (PW.out.below b3)
                have H4 := hid_of (same_call v3 u8 L L w3 (fs_row o3) P3.out.fc.fs (by omega) (by omega))
                rw [decide_eq_true (rfl : L = L)] at H4
                clear o3 b3 H3
                go_wp2_with fail
                refine H4.out.mono ?_
                rintro e w4 hw4
                obtain ⟨rfl, b4⟩ := hw4
                have P4 : Hid (Ps w b m (l.length + (i + 1)) L u8 w4) := hid_of (P3.out.below b4).more
                have H9 := hid_of (len_call b m L w4 P4.out.st.dk)
                have hcap := P4.out.fc.cap
                obtain ⟨aq, cq, hvq, _⟩ := hcap
                subst hvq
                unfold ptr at H9
                clear b4 H4 P3
                go_wp2_with fail
                refine H9.out.mono ?_
                rintro e w9 hw9
                obtain ⟨rfl, rfl⟩ := hw9
                go_wp2_with fail
                go_roundg g'
                case measure => omega
                case rel => exact ⟨i + 1, L, by omega, by omega, by rw [show ((i + 1 : Nat) : Int) = (i : Int) + 1 from by omega], P4⟩
              · have t5 : (K == 5) = false := by simpa using K5
                clear K5
                have H3 := hid_of (get_call b m L (mk k) W PW.out.st.dk (by rw [mk_size]; omega))
                have H4 : Hid (∀ w1, Below W.heap.size W w1 → Calls Tryd.prog 22 #[u8, .string (mk k)] w1 fun e w' => e = .returned (.tuple #[.string (valS L k), .bool (ok L k)]) ∧ Below w1.heap.size w1 w') := hid_of fun w1 b1 => rget_call u8 L k w1 (PW.out.fc.fs.below b1) PW.out.st.dk.ris (by omega)
                rw [bs_mk] at H3
                unfold ptr at H3
                have fx := bne_self' (ok L k)
                have fy : ((valS L k).toList == (valS L k).toList) = true := by simp
                clear hu hN1 hN2 hkk huu
                generalize mk k = Kb at *
                generalize mk u = Ub at *
                generalize ok L k = X at *
                generalize valS L k = Y at *
                go_wp2_with fail
                rw [← HW.out, ← HO.out]
                go_wp2_with fail
                refine H3.out.mono ?_
                rintro e w3 hw3
                obtain ⟨rfl, b3⟩ := hw3
                obtain ⟨x1, x2, x3⟩ := CX.out w3 (fun a x hx => cell_on b3 hx)
                have P3 := hid_of (PW.out.below b3)
                have H4' := hid_of (H4.out w3 b3)
                clear b3 H3 H4
                go_wp2_with fail
                refine H4'.out.mono ?_
                rintro e w4 hw4
                obtain ⟨rfl, b4⟩ := hw4
                have P4 : Hid (Ps w b m (l.length + (i + 1)) L u8 w4) := hid_of (P3.out.below b4).more
                have H9 := hid_of (len_call b m L w4 P4.out.st.dk)
                have hcap := P4.out.fc.cap
                obtain ⟨aq, cq, hvq, _⟩ := hcap
                subst hvq
                unfold ptr at H9
                clear b4 H4' P3
                go_wp2_with fail
                refine H9.out.mono ?_
                rintro e w9 hw9
                obtain ⟨rfl, rfl⟩ := hw9
                go_wp2_with fail
                go_roundg g'
                case measure => omega
                case rel => exact ⟨i + 1, L, by omega, by omega, by rw [show ((i + 1 : Nat) : Int) = (i : Int) + 1 from by omega], P4⟩
    · have gi : ¬ (i : Int) < (ops.length : Int) := by omega
      have hLl : L.length ≤ 2097152 := by have := HP.out.len; omega
      have H5 := hid_of (all_fields b m L wr HP.out.st.dk (by omega))
      unfold ptr at H5
      clear hi hg hlt
      go_wp2_with fail
      refine H5.out.mono ?_
      rintro e w5 ⟨v5, rfl, o5, bb⟩
      have P5 := hid_of (HP.out.below bb)
      have H6 := hid_of (same_call v5 u8 L L w5 (fs_row o5) P5.out.fc.fs (by omega) (by omega))
      rw [decide_eq_true (rfl : L = L)] at H6
      clear bb o5 H5
      go_wp2_with fail
      refine H6.out.mono ?_
      rintro e w6 hw6
      obtain ⟨rfl, bb⟩ := hw6
      have P6 := hid_of (P5.out.below bb)
      clear bb H6
      go_wp2_with fail
      refine (H8.out _ (HH.out.later P6.out.st.bel)).mono ?_
      rintro e w7 hw7
      obtain ⟨rfl, bb⟩ := hw7
      have P7 := hid_of (P6.out.below bb)
      clear bb
      go_wp2_with fail
      go_ret
      exact ⟨rfl, P7.out.st.bel⟩
set_option maxHeartbeats 4000000 in
set_option maxRecDepth 100000 in
theorem plays_no (v y : Value) (l : FL) (w : World) (h : Gv w v l) (hr : ¬ Ris l) (hh : Has w) : Calls Tryd.prog 3 #[v, y] w fun e w' => e = .returned (.bool true) ∧ Below w.heap.size w w' := by
  have HH := hid_of hh
  have H1 := hid_of (of_no v l w h.fs (by have := h.len; omega) hr)
  have H2 : Hid (∀ w1, Below w.heap.size w w1 → Calls Tryd.prog 9 #[v] w1 fun e w' => e = .returned (.bool false) ∧ Below w1.heap.size w1 w') := hid_of fun w1 b1 => by
    have := rises_call v l w1 (h.fs.below b1) (by have := h.len; omega)
    rw [decide_eq_false hr] at this
    exact this
  have H8 := hid_of sure_call
  clear h hr hh
  go_enter Tryd.func3, Tryd.ntmps3
  go_wp2_with fail
  refine H1.out.mono ?_
  rintro e w1 hw1
  obtain ⟨rfl, bb⟩ := hw1
  have B1 := hid_of bb
  have H2' := hid_of (H2.out w1 bb)
  clear bb H2
  go_wp2_with fail
  refine H2'.out.mono ?_
  rintro e w2 hw2
  obtain ⟨rfl, bb⟩ := hw2
  have B2 := hid_of (Base.bel B1.out bb (Nat.le_refl _))
  clear bb B1
  go_wp2_with fail
  refine (H8.out _ (HH.out.later B2.out)).mono ?_
  rintro e w4 hw4
  obtain ⟨rfl, bb⟩ := hw4
  go_wp2_with fail
  go_ret
  exact ⟨rfl, Base.bel B2.out bb (Nat.le_refl _)⟩
theorem plays_call (v y : Value) (l : FL) (ops : List OpD) (w : World) (h : Gv w v l) (hc : ∃ a c, v = .slice a l.length c ∧ l.length ≤ c) (hl : l.length ≤ 1048576) (hy : OS w y ops) (hop : ∀ o ∈ ops, opOk o) (hol : ops.length ≤ 1048576) (hh : Has w) : Calls Tryd.prog 3 #[v, y] w fun e w' => e = .returned (.bool true) ∧ Below w.heap.size w w' := by
  by_cases hr : Ris l
  · exact plays_yes v y l ops w h hc hy hop hr hl hol hh
  · exact plays_no v y l w h hr hh
end Go.Proofs.YtolihcgpnoacaaaDoor.Plays
