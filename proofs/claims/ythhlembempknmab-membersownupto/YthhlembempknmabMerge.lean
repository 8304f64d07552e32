/- merge: two rising lists, gone along at once. -/
import Derived.Test.YthhlembempknmabSmall
namespace Go.Proofs.Ythhlembempknmab.Merge
open Go.RowKit Go.Sort
open Go.Proofs.Ythhlembempknmab.SetMath
open Go.Proofs.Ythhlembempknmab.Base
open Go.Proofs.Ythhlembempknmab.Small
set_option linter.unusedVariables false
set_option linter.unusedSimpArgs false
/-- the merge's state: what is left of both, what is gathered -/
structure MR (f s b : Bool) (l m xs ys out : List El) (a1 a2 : Option Addr) (n1 c1 n2 c2 : Nat) (rv : Value) (w W0 wx : World) : Prop where
  e1 : n1 = xs.length
  e2 : n2 = ys.length
  l1 : n1 ≤ c1
  l2 : n2 ≤ c2
  r1 : Rd (fun k => k < w.heap.size) w a1 xs
  r2 : Rd (fun k => k < w.heap.size) w a2 ys
  nr : NR W0.heap.size wx rv out
  bl : Below W0.heap.size W0 wx
  eq : out ++ mrg f s b xs ys = mrg f s b l m
  le : out.length + n1 + n2 ≤ l.length + m.length
theorem MR.drewN {f s b : Bool} {l m xs ys out : List El} {a1 a2 : Option Addr} {n1 c1 n2 c2 : Nat} {rv : Value} {w W0 wx : World} (h : MR f s b l m xs ys out a1 a2 n1 c1 n2 c2 rv w W0 wx) (n : Nat) : MR f s b l m xs ys out a1 a2 n1 c1 n2 c2 rv w W0 (wx.drewN n) :=
  ⟨h.e1, h.e2, h.l1, h.l2, h.r1, h.r2, h.nr.drewN n, ⟨h.bl.os, h.bl.tape, h.bl.output, h.bl.size, h.bl.block⟩, h.eq, h.le⟩
theorem MR.to {f s b : Bool} {l m xs ys out : List El} {a1 a2 : Option Addr} {n1 c1 n2 c2 : Nat} {rv : Value} {w W0 wx : World} (h : MR f s b l m xs ys out a1 a2 n1 c1 n2 c2 rv w W0 wx)
    {xs' ys' add : List El} {b1 b2 : Option Addr} {k1 d1 k2 d2 : Nat} {rv' : Value} {w2 : World} (e : mrg f s b xs ys = add ++ mrg f s b xs' ys') (e1 : k1 = xs'.length) (e2 : k2 = ys'.length) (l1 : k1 ≤ d1) (l2 : k2 ≤ d2)
    (r1 : Rd (fun k => k < w.heap.size) w b1 xs') (r2 : Rd (fun k => k < w.heap.size) w b2 ys') (nr : NR W0.heap.size w2 rv' (out ++ add)) (bl : Below W0.heap.size W0 w2) (le : add.length + k1 + k2 ≤ n1 + n2) :
    MR f s b l m xs' ys' (out ++ add) b1 b2 k1 d1 k2 d2 rv' w W0 w2 :=
  ⟨e1, e2, l1, l2, r1, r2, nr, bl, by rw [← h.eq, e, List.append_assoc], by have := h.le; rw [List.length_append]; omega⟩
/-- the heads -/
theorem head_cell {w W0 wx : World} {B : Nat} {a : Option Addr} {x : El} {xs : List El} (h : Rd (fun k => k < w.heap.size) w a (x :: xs)) (b0 : Below w.heap.size w W0) (bl : Below B W0 wx) (hB : w.heap.size ≤ B) : ∃ g o, a = some ⟨g, o, none⟩ ∧ wx.cell? ⟨g, o, none⟩ = some (.string (mk x)) := by
  obtain ⟨g, o, rfl, hg, q⟩ := Rd.get h (by simp)
  have h1 := q 0 x rfl
  refine ⟨g, o, rfl, ?_⟩
  rw [← h1]
  exact (World.cell?_of_block (w := W0) (bl.block g (by omega))).trans (World.cell?_of_block (w := w) (b0.block g hg))
theorem tail_rd {w : World} {a : Option Addr} {x : El} {xs : List El} {n c : Nat} (h : Rd (fun k => k < w.heap.size) w a (x :: xs)) (e : n = (x :: xs).length) (l : n ≤ c) : Rd (fun k => k < w.heap.size) w (ca a c 1) xs := by
  have := h.drop (c := c) (by omega) 1
  simpa using this
set_option maxHeartbeats 4000000 in
set_option maxRecDepth 100000 in
theorem merge_call {G G' : Nat → Prop} {w : World} {u v : Value} {l m : List El} (f s b : Bool) (h : SL G w u l) (h' : SL G' w v m) (hb : (l.length + m.length) * 16 ≤ 140737488355328) :
    Calls Try.prog 20 #[u, v, .agg #[.bool f, .bool s, .bool b]] w fun e w' => ∃ r, e = .returned r ∧ NR w.heap.size w' r (mrg f s b l m) ∧ Below w.heap.size w w' := by
  obtain ⟨a, c, rfl, hc, hr⟩ := h
  obtain ⟨a', c', rfl, hc', hr'⟩ := h'
  obtain ⟨W0, hW0⟩ : ∃ W0, W0 = w.alloc (.cells #[.bool f, .bool s, .bool b] 37) := ⟨_, rfl⟩
  have b0 : Below w.heap.size w W0 := by rw [hW0]; exact (Below.refl _ w).alloc (Nat.le_refl _) _
  have s0 : W0.heap.size = w.heap.size + 1 := by rw [hW0]; simp
  have k0 : W0.heap[w.heap.size]? = some (.cells #[.bool f, .bool s, .bool b] 37 (0, 0)) := by rw [hW0]; exact heap_alloc_new w _
  have M0 : MR f s b l m l m [] a a' l.length c m.length c' (.slice none 0 0) w W0 W0 := ⟨rfl, rfl, hc, hc', hr.lt.mono fun k _ q => q.2, hr'.lt.mono fun k _ q => q.2, .inl ⟨rfl, rfl⟩, Below.refl _ _, by simp, by simp⟩
  have HM0 := hid_of M0
  have HB0 := hid_of b0
  have HS0 := hid_of s0
  have HK0 : Hid (∀ W, Below W0.heap.size W0 W → W.cell? ⟨w.heap.size, 0, none⟩ = some (.bool f) ∧ W.cell? ⟨w.heap.size, 1, none⟩ = some (.bool s) ∧ W.cell? ⟨w.heap.size, 2, none⟩ = some (.bool b)) := hid_of fun W hW => by
    have : W.heap[w.heap.size]? = some (.cells #[.bool f, .bool s, .bool b] 37 (0, 0)) := (hW.block _ (by omega)).trans k0
    exact ⟨Lib.cell_of_heap this 0, Lib.cell_of_heap this 1, Lib.cell_of_heap this 2⟩
  obtain ⟨T, HT⟩ : ∃ T, Hid (T = l.length + m.length) := ⟨_, hid_of rfl⟩
  have hT : T * 16 ≤ 140737488355328 := by rw [HT.out]; exact hb
  obtain ⟨n1, HN1⟩ : ∃ N, Hid (N = l.length) := ⟨_, hid_of rfl⟩
  obtain ⟨n2, HN2⟩ : ∃ N, Hid (N = m.length) := ⟨_, hid_of rfl⟩
  rw [← HN1.out, ← HN2.out] at HM0 ⊢
  have hl1 : n1 ≤ T := by rw [HT.out, HN1.out]; omega
  have hm1 : n2 ≤ T := by rw [HT.out, HN2.out]; omega
  have hnT : n1 + n2 = T := by rw [HT.out, HN1.out, HN2.out]
  have HNT := hid_of hnT
  clear hr hr' M0 b0 s0 k0 hb hc hc' hnT
  go_enter Try.func20, Try.ntmps20
  go_wp2_with (first | (rw [← hW0]; clear hW0) | fail)
  go_loopg [0, 1, 7] T (fun g s0 s1 s7 wx => ∃ (xs ys out : List El) (a1 a2 ra : Option Addr) (n1 c1 n2 c2 rn rc : Nat), s0 = .slice a1 n1 c1 ∧ s1 = .slice a2 n2 c2 ∧ s7 = .slice ra rn rc ∧ n1 + n2 ≤ g ∧ n1 + n2 ≤ T ∧ Hid (MR f s b l m xs ys out a1 a2 n1 c1 n2 c2 (.slice ra rn rc) w W0 wx))
  case atStart => exact ⟨l, m, [], a, a', none, n1, c, n2, c', 0, 0, rfl, rfl, rfl, by have := HNT.out; omega, by have := HNT.out; omega, HM0⟩
  case round =>
    clear HM0
    obtain ⟨xs, ys, out, a1, a2, ra, n1, c1, n2, c2, rn, rc, rfl, rfl, rfl, hg, hnT, R⟩ := hrel
    by_cases hgo : 0 < n1 ∧ 0 < n2
    · obtain ⟨p1, p2⟩ := hgo
      obtain ⟨g', rfl⟩ : ∃ g', gk = g' + 1 := ⟨gk - 1, by omega⟩
      obtain ⟨x, xs', rfl⟩ : ∃ x xs', xs = x :: xs' := by
        cases xs with
        | nil => have := R.out.e1; simp at this; omega
        | cons x xs' => exact ⟨x, xs', rfl⟩
      obtain ⟨y, ys', rfl⟩ : ∃ y ys', ys = y :: ys' := by
        cases ys with
        | nil => have := R.out.e2; simp at this; omega
        | cons y ys' => exact ⟨y, ys', rfl⟩
      obtain ⟨g1, o1, rfl, x1⟩ := head_cell R.out.r1 HB0.out R.out.bl (by have := HS0.out; omega)
      obtain ⟨g2, o2, rfl, y1⟩ := head_cell R.out.r2 HB0.out R.out.bl (by have := HS0.out; omega)
      obtain ⟨f0, f1, f2⟩ := HK0.out _ R.out.bl
      have hs1 : ∀ W, (Instr.slice 22 (.slice (some ⟨g1, o1, none⟩) n1 c1) (some (.int .i64 1)) none none).run Try.prog W = .ok (.slice (ca (some ⟨g1, o1, none⟩) c1 1) (n1 - 1) (c1 - 1)) W := fun W => cut_lo _ n1 c1 1 1 rfl p1 W
      have hs2 : ∀ W, (Instr.slice 22 (.slice (some ⟨g2, o2, none⟩) n2 c2) (some (.int .i64 1)) none none).run Try.prog W = .ok (.slice (ca (some ⟨g2, o2, none⟩) c2 1) (n2 - 1) (c2 - 1)) W := fun W => cut_lo _ n2 c2 1 1 rfl p2 W
      have HC := hid_of fun W => cmp_call x y W
      have T1 := hid_of (tail_rd R.out.r1 R.out.e1 R.out.l1)
      have T2 := hid_of (tail_rd R.out.r2 R.out.e2 R.out.l2)
      generalize hA1 : ca (some ⟨g1, o1, none⟩) c1 1 = A1 at *
      generalize hA2 : ca (some ⟨g2, o2, none⟩) c2 1 = A2 at *
      clear hA1 hA2
      have d1 : (0 : Int) < (n1 : Int) := by omega
      have d2 : (0 : Int) < (n2 : Int) := by omega
      unfold ord at HC
      rcases lt_tot x y with q | q | q
      · rw [if_pos q] at HC
        have HQ := hid_of q
        clear q
        cases f with
        | false =>
          go_wp2_with fail
          go_quiet ((go_at_call 24; exact Calls.quiet_of_same (HC.out _)))
          have RD := hid_of (R.out.drewN nq)
          have K : Hid (MR false s b l m xs' (y :: ys') (out ++ []) A1 (some ⟨g2, o2, none⟩) (n1 - 1) (c1 - 1) n2 c2 (.slice ra rn rc) w W0 (wr.drewN nq)) := hid_of (R.out.to (by rw [mrg_lt _ _ _ _ _ HQ.out]; simp) (by have := R.out.e1; rw [List.length_cons] at this; omega) (R.out.e2) (by have := R.out.l1; omega) (by have := R.out.l2; omega) T1.out R.out.r2 (by rw [List.append_nil]; exact RD.out.nr) RD.out.bl (by simp <;> omega))
          clear RD R
          go_wp2_with fail
          go_roundg g'
          case measure => omega
          case rel => exact ⟨xs', (y :: ys'), out ++ [], A1, (some ⟨g2, o2, none⟩), ra, (n1 - 1), (c1 - 1), n2, c2, rn, rc, rfl, rfl, rfl, by omega, by omega, K⟩
        | true =>
          go_wp2_with fail
          go_quiet ((go_at_call 24; exact Calls.quiet_of_same (HC.out _)))
          have RD := hid_of (R.out.drewN nq)
          obtain ⟨v2, w2, hrun, q2, b2⟩ := app_one (w := wr.drewN nq) x RD.out.nr (by have := RD.out.le; have := HT.out; have := R.out.e1; have := R.out.e2; omega) RD.out.bl.size 22
          obtain ⟨ra2, rc2, rfl, _⟩ := q2.shape
          generalize hrn : (out ++ [x]).length = rn2 at *
          have K : Hid (MR true s b l m xs' (y :: ys') (out ++ [x]) A1 (some ⟨g2, o2, none⟩) (n1 - 1) (c1 - 1) n2 c2 (.slice ra2 rn2 rc2) w W0 w2) := hid_of (R.out.to (by rw [mrg_lt _ _ _ _ _ HQ.out]; simp) (by have := R.out.e1; rw [List.length_cons] at this; omega) (R.out.e2) (by have := R.out.l1; omega) (by have := R.out.l2; omega) T1.out R.out.r2 q2 (RD.out.bl.trans b2) (by simp <;> omega))
          clear q2 b2 RD R hrn
          go_wp2_with (at_builtin; refine wpl_eq rfl _ _ 22 22 rfl (.slice ra rn rc) (.slice (some ⟨wr.heap.size, 0, none⟩) 1 1) (.slice ra2 rn2 rc2) _ w2 rfl rfl hrun ?_)
          go_roundg g'
          case measure => omega
          case rel => exact ⟨xs', (y :: ys'), out ++ [x], A1, (some ⟨g2, o2, none⟩), ra2, (n1 - 1), (c1 - 1), n2, c2, rn2, rc2, rfl, rfl, rfl, by omega, by omega, K⟩
      · have HQ := hid_of q
        rw [q, if_neg (List.lt_irrefl y), if_neg (List.lt_irrefl y)] at HC
        clear q
        cases b with
        | false =>
          have HQ2 := HQ.out
          subst HQ2
          go_wp2_with fail
          go_quiet ((go_at_call 24; exact Calls.quiet_of_same (HC.out _)))
          have RD := hid_of (R.out.drewN nq)
          have K : Hid (MR f s false l m xs' ys' (out ++ []) A1 A2 (n1 - 1) (c1 - 1) (n2 - 1) (c2 - 1) (.slice ra rn rc) w W0 (wr.drewN nq)) := hid_of (R.out.to (by rw [mrg_eq]; simp) (by have := R.out.e1; rw [List.length_cons] at this; omega) (by have := R.out.e2; rw [List.length_cons] at this; omega) (by have := R.out.l1; omega) (by have := R.out.l2; omega) T1.out T2.out (by rw [List.append_nil]; exact RD.out.nr) RD.out.bl (by simp <;> omega))
          clear RD R
          go_wp2_with fail
          go_roundg g'
          case measure => omega
          case rel => exact ⟨xs', ys', out ++ [], A1, A2, ra, (n1 - 1), (c1 - 1), (n2 - 1), (c2 - 1), rn, rc, rfl, rfl, rfl, by omega, by omega, K⟩
        | true =>
          have HQ2 := HQ.out
          subst HQ2
          go_wp2_with fail
          go_quiet ((go_at_call 24; exact Calls.quiet_of_same (HC.out _)))
          have RD := hid_of (R.out.drewN nq)
          obtain ⟨v2, w2, hrun, q2, b2⟩ := app_one (w := wr.drewN nq) x RD.out.nr (by have := RD.out.le; have := HT.out; have := R.out.e1; have := R.out.e2; omega) RD.out.bl.size 22
          obtain ⟨ra2, rc2, rfl, _⟩ := q2.shape
          generalize hrn : (out ++ [x]).length = rn2 at *
          have K : Hid (MR f s true l m xs' ys' (out ++ [x]) A1 A2 (n1 - 1) (c1 - 1) (n2 - 1) (c2 - 1) (.slice ra2 rn2 rc2) w W0 w2) := hid_of (R.out.to (by rw [mrg_eq]; simp) (by have := R.out.e1; rw [List.length_cons] at this; omega) (by have := R.out.e2; rw [List.length_cons] at this; omega) (by have := R.out.l1; omega) (by have := R.out.l2; omega) T1.out T2.out q2 (RD.out.bl.trans b2) (by simp <;> omega))
          clear q2 b2 RD R hrn
          go_wp2_with (at_builtin; refine wpl_eq rfl _ _ 22 22 rfl (.slice ra rn rc) (.slice (some ⟨wr.heap.size, 0, none⟩) 1 1) (.slice ra2 rn2 rc2) _ w2 rfl rfl hrun ?_)
          go_roundg g'
          case measure => omega
          case rel => exact ⟨xs', ys', out ++ [x], A1, A2, ra2, (n1 - 1), (c1 - 1), (n2 - 1), (c2 - 1), rn2, rc2, rfl, rfl, rfl, by omega, by omega, K⟩
      · rw [if_neg (lt_not q), if_pos q] at HC
        have HQ := hid_of q
        clear q
        cases s with
        | false =>
          go_wp2_with fail
          go_quiet ((go_at_call 24; exact Calls.quiet_of_same (HC.out _)))
          have RD := hid_of (R.out.drewN nq)
          have K : Hid (MR f false b l m (x :: xs') ys' (out ++ []) (some ⟨g1, o1, none⟩) A2 n1 c1 (n2 - 1) (c2 - 1) (.slice ra rn rc) w W0 (wr.drewN nq)) := hid_of (R.out.to (by rw [mrg_gt _ _ _ _ _ HQ.out]; simp) (R.out.e1) (by have := R.out.e2; rw [List.length_cons] at this; omega) (by have := R.out.l1; omega) (by have := R.out.l2; omega) R.out.r1 T2.out (by rw [List.append_nil]; exact RD.out.nr) RD.out.bl (by simp <;> omega))
          clear RD R
          go_wp2_with fail
          go_roundg g'
          case measure => omega
          case rel => exact ⟨(x :: xs'), ys', out ++ [], (some ⟨g1, o1, none⟩), A2, ra, n1, c1, (n2 - 1), (c2 - 1), rn, rc, rfl, rfl, rfl, by omega, by omega, K⟩
        | true =>
          go_wp2_with fail
          go_quiet ((go_at_call 24; exact Calls.quiet_of_same (HC.out _)))
          have RD := hid_of (R.out.drewN nq)
          obtain ⟨v2, w2, hrun, q2, b2⟩ := app_one (w := wr.drewN nq) y RD.out.nr (by have := RD.out.le; have := HT.out; have := R.out.e1; have := R.out.e2; omega) RD.out.bl.size 22
          obtain ⟨ra2, rc2, rfl, _⟩ := q2.shape
          generalize hrn : (out ++ [y]).length = rn2 at *
          have K : Hid (MR f true b l m (x :: xs') ys' (out ++ [y]) (some ⟨g1, o1, none⟩) A2 n1 c1 (n2 - 1) (c2 - 1) (.slice ra2 rn2 rc2) w W0 w2) := hid_of (R.out.to (by rw [mrg_gt _ _ _ _ _ HQ.out]; simp) (R.out.e1) (by have := R.out.e2; rw [List.length_cons] at this; omega) (by have := R.out.l1; omega) (by have := R.out.l2; omega) R.out.r1 T2.out q2 (RD.out.bl.trans b2) (by simp <;> omega))
          clear q2 b2 RD R hrn
          go_wp2_with (at_builtin; refine wpl_eq rfl _ _ 22 22 rfl (.slice ra rn rc) (.slice (some ⟨wr.heap.size, 0, none⟩) 1 1) (.slice ra2 rn2 rc2) _ w2 rfl rfl hrun ?_)
          go_roundg g'
          case measure => omega
          case rel => exact ⟨(x :: xs'), ys', out ++ [y], (some ⟨g1, o1, none⟩), A2, ra2, n1, c1, (n2 - 1), (c2 - 1), rn2, rc2, rfl, rfl, rfl, by omega, by omega, K⟩
    · have HX : Hid (xs = [] ∨ ys = []) := hid_of (by
        by_cases z : n1 = 0
        · exact .inl (List.length_eq_zero_iff.1 (by rw [← R.out.e1]; exact z))
        · exact .inr (List.length_eq_zero_iff.1 (by rw [← R.out.e2]; omega)))
      have dd : ¬ 0 < n1 ∨ (0 < n1 ∧ ¬ 0 < n2) := by omega
      clear hgo
      have hgd : (decide ((0 : Int) < (n1 : Int)) && decide ((0 : Int) < (n2 : Int))) = false := by rcases dd with z | ⟨z1, z2⟩ <;> simp <;> omega
      rcases dd with z | ⟨z1, z2⟩
      all_goals
       cases f <;> cases s
       · have RR := R.out
         have K : Hid (NR W0.heap.size wr (.slice ra rn rc) (mrg false false b l m) ∧ Below W0.heap.size W0 wr) := hid_of ⟨by
           rw [← RR.eq, mrg_end _ _ _ _ _ HX.out]
           simpa using RR.nr, RR.bl⟩
         obtain ⟨f0, f1, f2⟩ := HK0.out _ RR.bl
         have KB := hid_of HB0.out
         clear R RR
         go_wp2_with fail
         go_ret
         exact ⟨_, rfl, K.out.1.mono (by have := HS0.out; omega), KB.out.trans (K.out.2.mono (by have := HS0.out; omega))⟩
       · have RR := R.out
         obtain ⟨v3, w3, hrun3, q3, b3⟩ := app_any (c := c2) RR.nr (Rd.keep RR.r2 (w' := wr) (fun k hk _ => (RR.bl.block k (by have := HS0.out; omega)).trans (HB0.out.block k hk))) (.inl (by have := RR.le; have := HT.out; have := RR.e1; have := RR.e2; omega)) RR.bl.size 22
         rw [← RR.e2] at hrun3
         obtain ⟨ra3, rc3, rfl, _⟩ := q3.shape
         have bb3 := RR.bl.trans b3
         have K : Hid (NR W0.heap.size w3 (.slice ra3 (out ++ ys).length rc3) (mrg false true b l m) ∧ Below W0.heap.size W0 w3) := hid_of ⟨by
           rw [← RR.eq, mrg_end _ _ _ _ _ HX.out]
           simpa using q3, bb3⟩
         generalize (out ++ ys).length = rn3 at *
         obtain ⟨f0, f1, f2⟩ := HK0.out _ RR.bl
         have KB := hid_of HB0.out
         clear R RR q3 b3 bb3
         go_wp2_with (first | (at_builtin; refine wpl_eq rfl _ _ 22 22 rfl (.slice ra rn rc) (.slice a2 n2 c2) (.slice ra3 rn3 rc3) _ w3 rfl rfl hrun3 ?_; clear hrun3))
         go_ret
         exact ⟨_, rfl, K.out.1.mono (by have := HS0.out; omega), KB.out.trans (K.out.2.mono (by have := HS0.out; omega))⟩
       · have RR := R.out
         obtain ⟨v2, w2, hrun2, q2, b2⟩ := app_any (c := c1) RR.nr (Rd.keep RR.r1 (w' := wr) (fun k hk _ => (RR.bl.block k (by have := HS0.out; omega)).trans (HB0.out.block k hk))) (.inl (by have := RR.le; have := HT.out; have := RR.e1; omega)) RR.bl.size 22
         rw [← RR.e1] at hrun2
         obtain ⟨ra2, rc2, rfl, _⟩ := q2.shape
         have bb2 := RR.bl.trans b2
         have K : Hid (NR W0.heap.size w2 (.slice ra2 (out ++ xs).length rc2) (mrg true false b l m) ∧ Below W0.heap.size W0 w2) := hid_of ⟨by
           rw [← RR.eq, mrg_end _ _ _ _ _ HX.out]
           simpa using q2, bb2⟩
         obtain ⟨f0', f1', f2'⟩ := HK0.out w2 bb2
         generalize (out ++ xs).length = rn2 at *
         obtain ⟨f0, f1, f2⟩ := HK0.out _ RR.bl
         have KB := hid_of HB0.out
         clear R RR q2 b2 bb2
         go_wp2_with (first | (at_builtin; refine wpl_eq rfl _ _ 22 22 rfl (.slice ra rn rc) (.slice a1 n1 c1) (.slice ra2 rn2 rc2) _ w2 rfl rfl hrun2 ?_; clear hrun2))
         go_ret
         exact ⟨_, rfl, K.out.1.mono (by have := HS0.out; omega), KB.out.trans (K.out.2.mono (by have := HS0.out; omega))⟩
       · have RR := R.out
         obtain ⟨v2, w2, hrun2, q2, b2⟩ := app_any (c := c1) RR.nr (Rd.keep RR.r1 (w' := wr) (fun k hk _ => (RR.bl.block k (by have := HS0.out; omega)).trans (HB0.out.block k hk))) (.inl (by have := RR.le; have := HT.out; have := RR.e1; omega)) RR.bl.size 22
         rw [← RR.e1] at hrun2
         obtain ⟨ra2, rc2, rfl, _⟩ := q2.shape
         have bb2 := RR.bl.trans b2
         obtain ⟨v3, w3, hrun3, q3, b3⟩ := app_any (c := c2) q2 (Rd.keep RR.r2 (w' := w2) (fun k hk _ => (bb2.block k (by have := HS0.out; omega)).trans (HB0.out.block k hk))) (.inl (by rw [List.length_append]; have := RR.le; have := HT.out; have := RR.e1; have := RR.e2; omega)) bb2.size 22
         rw [← RR.e2] at hrun3
         obtain ⟨ra3, rc3, rfl, _⟩ := q3.shape
         have bb3 := bb2.trans b3
         have K : Hid (NR W0.heap.size w3 (.slice ra3 ((out ++ xs) ++ ys).length rc3) (mrg true true b l m) ∧ Below W0.heap.size W0 w3) := hid_of ⟨by
           rw [← RR.eq, mrg_end _ _ _ _ _ HX.out]
           simpa using q3, bb3⟩
         obtain ⟨f0', f1', f2'⟩ := HK0.out w2 bb2
         generalize (out ++ xs).length = rn2 at *
         generalize ((out ++ xs) ++ ys).length = rn3 at *
         obtain ⟨f0, f1, f2⟩ := HK0.out _ RR.bl
         have KB := hid_of HB0.out
         clear R RR q2 b2 bb2 q3 b3 bb3
         go_wp2_with (first | (at_builtin; refine wpl_eq rfl _ _ 22 22 rfl (.slice ra rn rc) (.slice a1 n1 c1) (.slice ra2 rn2 rc2) _ w2 rfl rfl hrun2 ?_; clear hrun2) | (at_builtin; refine wpl_eq rfl _ _ 22 22 rfl (.slice ra2 rn2 rc2) (.slice a2 n2 c2) (.slice ra3 rn3 rc3) _ w3 rfl rfl hrun3 ?_; clear hrun3))
         go_ret
         exact ⟨_, rfl, K.out.1.mono (by have := HS0.out; omega), KB.out.trans (K.out.2.mono (by have := HS0.out; omega))⟩
end Go.Proofs.Ythhlembempknmab.Merge
