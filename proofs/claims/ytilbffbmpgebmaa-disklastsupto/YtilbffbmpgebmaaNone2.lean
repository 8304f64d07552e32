/- texts, awake, rows that are spoilt beside the disk. -/
import Derived.Test.YtilbffbmpgebmaaNone
namespace Go.Proofs.Ytilbffbmpgebmaa.None2
open Go.RowKit Go.Maps Go.Sort
open Go.Proofs.Ytilbffbmpgebmaa.DiskMath
open Go.Proofs.Ytilbffbmpgebmaa.Base
open Go.Proofs.Ytilbffbmpgebmaa.Small
open Go.Proofs.Ytilbffbmpgebmaa.Find
open Go.Proofs.Ytilbffbmpgebmaa.File2
open Go.Proofs.Ytilbffbmpgebmaa.Rising
open Go.Proofs.Ytilbffbmpgebmaa.Crash
open Go.Proofs.Ytilbffbmpgebmaa.Swaps
open Go.Proofs.Ytilbffbmpgebmaa.None
set_option linter.unusedVariables false

/- a slice of texts, to be read -/
def SR (w : World) (v : Value) (l : List Bs) : Prop := ∃ a c, v = .slice a l.length c ∧ (l = [] ∨ ∃ g o, a = some ⟨g, o, none⟩ ∧ ∀ k (h : k < l.length), w.cell? ⟨g, o + k, none⟩ = some (encStr (l[k]'h)))
theorem sr_row {w : World} {base g cap : Nat} {l : List Bs} (h : w.ownsRow base 9 1 (.slice (some ⟨g, 0, none⟩) l.length cap) l.length (l.map encStr)) : SR w (.slice (some ⟨g, 0, none⟩) l.length cap) l := by
  refine ⟨_, _, rfl, Or.inr ⟨g, 0, rfl, fun k hk => ?_⟩⟩
  rw [Nat.zero_add, h.cellAt k (by omega), List.getElem?_map, List.getElem?_eq_getElem hk]
  rfl
theorem sr_cells {w w' : World} {v : Value} {l : List Bs} (h : SR w v l) (hc : ∀ a x, w.cell? a = some x → w'.cell? a = some x) : SR w' v l := by
  obtain ⟨a, c, h1, h2 | ⟨g, o, h2, h3⟩⟩ := h
  · exact ⟨a, c, h1, Or.inl h2⟩
  · exact ⟨a, c, h1, Or.inr ⟨g, o, h2, fun k hk => hc _ _ (h3 k hk)⟩⟩
theorem take_eq_of {α : Type} {x y : List α} (k : Nat) (hj : ∀ j, j < k → x[j]? = y[j]?) : x.take k = y.take k := by
  apply List.ext_getElem?
  intro i
  rw [List.getElem?_take, List.getElem?_take]
  split
  · rename_i hlt; exact hj i hlt
  · rfl
theorem mk_ne {a b : List UInt8} : ((mk a).toList == (mk b).toList) = decide (a = b) := by
  rw [Lib.toList_data, Lib.toList_data, Bool.eq_iff_iff, beq_iff_eq, decide_eq_true_iff]
  exact Iff.rfl
theorem dd (w : World) (n m : Nat) : (w.drewN n).drewN m = w.drewN (n + m) := by
  unfold World.drewN
  simp [Nat.add_assoc]
set_option maxHeartbeats 2000000 in
set_option maxRecDepth 100000 in
theorem texts_call (v u : Value) (x y : List Bs) (w : World) (hv : SR w v x) (hu : SR w u y) (hx : x.length ≤ 1099511627776) :
    Calls Try.prog 19 #[v, u] w fun e w' => e = .returned (.bool (decide (x = y))) ∧ ∃ n, w' = w.drewN n := by
  obtain ⟨a, c, rfl, hv⟩ := hv
  obtain ⟨a', c', rfl, hu⟩ := hu
  by_cases hl : x.length = y.length
  · have HV := hid_of hv
    have HU := hid_of hu
    have HLE := hid_of hl
    rw [← hl]
    have g0 : ((x.length : Int) != (x.length : Int)) = false := by simp
    clear hv hu hl
    go_enter Try.func19, Try.ntmps19
    go_wp2_with fail
    go_loopg [5, 4] x.length (fun g s5 _ wx => ∃ k n : Nat, k ≤ x.length ∧ x.length ≤ k + g ∧ s5 = .int .i64 k ∧ wx = w.drewN n ∧ Hid (∀ j, j < k → x[j]? = y[j]?))
    case atStart => exact ⟨0, 0, by omega, by omega, rfl, rfl, fun j hj => absurd hj (by omega)⟩
    case round =>
      obtain ⟨k, n, hk, hg, rfl, rfl, HJ⟩ := hrel
      by_cases hlt : k < x.length
      · obtain ⟨g', rfl⟩ : ∃ g', gk = g' + 1 := ⟨gk - 1, by omega⟩
        have hlty : k < y.length := by have := HLE.out; omega
        obtain ⟨gv, ov, rfl, hcv⟩ : ∃ g o, a = some ⟨g, o, none⟩ ∧ ∀ k (h : k < x.length), w.cell? ⟨g, o + k, none⟩ = some (encStr (x[k]'h)) := by
          rcases HV.out with h | h
          · subst h; exact absurd hlt (by simp)
          · exact h
        obtain ⟨gu, ou, rfl, hcu⟩ : ∃ g o, a' = some ⟨g, o, none⟩ ∧ ∀ k (h : k < y.length), w.cell? ⟨g, o + k, none⟩ = some (encStr (y[k]'h)) := by
          rcases HU.out with h | h
          · subst h; exact absurd hlty (by simp)
          · exact h
        have c1 : w.cell? ⟨gv, ov + k, none⟩ = some (.string (mk (x[k]'hlt))) := hcv k hlt
        have c2 : w.cell? ⟨gu, ou + k, none⟩ = some (.string (mk (y[k]'hlty))) := hcu k hlty
        have ew : IntKind.i64.wrap ((k : Int) + 1) = (k : Int) + 1 := IntWalk.i64_in _ (by omega)
        have gi : ((k : Int)) < (x.length : Int) := by omega
        have hcmp := mk_ne (a := x[k]'hlt) (b := y[k]'hlty)
        by_cases he : x[k]'hlt = y[k]'hlty
        · rw [decide_eq_true he] at hcmp
          have HJ2 : Hid (∀ j, j < k + 1 → x[j]? = y[j]?) := by
            intro j hj
            by_cases hjk : j < k
            · exact HJ.out j hjk
            · obtain rfl : j = k := by omega
              rw [List.getElem?_eq_getElem hlt, List.getElem?_eq_getElem hlty, he]
          generalize mk (x[k]'hlt) = X at c1 hcmp
          generalize mk (y[k]'hlty) = Y at c2 hcmp
          clear he hcv hcu
          go_wp2_with fail
          go_quiet (fail)
          go_wp2_with fail
          go_roundg g'
          case measure => omega
          case rel => exact ⟨k + 1, n + nq, by omega, by omega, by rw [show ((k + 1 : Nat) : Int) = (k : Int) + 1 from by omega], rfl, HJ2.out⟩
        · rw [decide_eq_false he] at hcmp
          have HNE : Hid (decide (x = y) = false) := by
            refine decide_eq_false (fun e => he ?_)
            subst e; rfl
          generalize mk (x[k]'hlt) = X at c1 hcmp
          generalize mk (y[k]'hlty) = Y at c2 hcmp
          clear he hcv hcu
          go_wp2_with fail
          go_quiet (fail)
          go_wp2_with fail
          go_ret
          exact ⟨by rw [HNE.out]; rfl, n + nq, dd _ _ _⟩
      · have HEQ : Hid (decide (x = y) = true) := by
          refine decide_eq_true ?_
          have h1 := take_eq_of x.length (fun j hj => HJ.out j (by omega))
          rw [List.take_length, HLE.out, List.take_length] at h1
          exact h1
        have gi : ¬ ((k : Int)) < (x.length : Int) := by omega
        go_wp2_with fail
        go_ret
        exact ⟨by rw [HEQ.out]; rfl, _, rfl⟩
  · have HNE : Hid (decide (x = y) = false) := decide_eq_false (fun e => hl (by rw [e]))
    have g0 : ((x.length : Int) != (y.length : Int)) = true := by rw [bne_iff_ne]; omega
    have g0' : ((x.length : Int) == (y.length : Int)) = false := by rw [beq_eq_false_iff_ne]; omega
    clear hv hu hl
    go_enter Try.func19, Try.ntmps19
    go_wp2_with fail
    go_ret
    exact ⟨by rw [HNE.out]; rfl, 0, rfl⟩
/- awake -/
def dc : Dk := ⟨[([111, 108, 100], 3), ([110, 101, 119], 3)], [([97], 0), ([98], 1)], [([97], 0), ([98], 1)], [], [], 8, false⟩
theorem tc : (d8 [111, 108, 100] [110, 101, 119]).crash 1 [] = dc := rfl
theorem rc1 : dc.read [97] = ([111, 108, 100], 0) := rfl
theorem rc2 : dc.read [98] = ([110, 101, 119], 0) := rfl
set_option maxHeartbeats 4000000 in
set_option maxRecDepth 100000 in
theorem awake_call (w : World) : Calls Try.prog 9 #[] w fun e w' => e = .returned (.bool true) ∧ Below w.heap.size w w' := by
  have HN := hid_of (new_call w)
  obtain ⟨base, hbase⟩ : ∃ base, base = w.heap.size := ⟨_, rfl⟩
  rw [← hbase] at HN
  have HBS := hid_of hbase
  obtain ⟨b, hbd⟩ : ∃ b, b = base + 2 := ⟨_, rfl⟩
  rw [← hbd] at HN
  unfold ptr at HN
  clear hbase hbd
  go_enter Try.func9, Try.ntmps9
  go_wp2_with fail
  refine HN.out.mono ?_
  rintro e w1 ⟨rfl, k1, e1⟩
  have K1 := hid_of (show Has base b new w1 from k1)
  have V1 : Hid (Below base w w1) := e1
  clear k1 e1
  have C1 := hid_of (op_create (s := ⟨#[97]⟩) t1 K1.out rfl (by decide) (by decide))
  go_wp2_with fail
  refine C1.out.mono ?_
  rintro e w2 ⟨rfl, k2, e2⟩
  have K2 := hid_of k2
  have E2 := hid_of e2
  clear k2 e2 C1
  have C2 := hid_of (op_append (s := ⟨#[97]⟩) (t := ⟨#[111, 108, 100]⟩) (t2 [111, 108, 100]) K2.out rfl (by decide) (by decide) (fun x hx => by cases hx; decide) (by decide))
  go_wp2_with fail
  refine C2.out.mono ?_
  rintro e w3 ⟨rfl, k3, e3⟩
  have K3 := hid_of k3
  have E3 := hid_of (E2.out.trans e3)
  clear k3 e3 C2
  have C3 := hid_of (op_sync (s := ⟨#[97]⟩) (t3 [111, 108, 100]) K3.out rfl (by decide) (show (2 : Nat) + 1 < 1099511627776 by decide))
  go_wp2_with fail
  refine C3.out.mono ?_
  rintro e w4 ⟨rfl, k4, e4⟩
  have K4 := hid_of k4
  have E4 := hid_of (E3.out.trans e4)
  clear k4 e4 C3
  have C4 := hid_of (op_names (t4 [111, 108, 100]) K4.out rfl (show (3 : Nat) + 1 < 1099511627776 by decide))
  go_wp2_with fail
  refine C4.out.mono ?_
  rintro e w5 ⟨rfl, k5, e5⟩
  have K5 := hid_of k5
  have E5 := hid_of (E4.out.trans e5)
  clear k5 e5 C4
  have C5 := hid_of (op_create (s := ⟨#[98]⟩) (t5 [111, 108, 100]) K5.out rfl (by decide) (show (4 : Nat) + 1 < 1099511627776 by decide))
  go_wp2_with fail
  refine C5.out.mono ?_
  rintro e w6 ⟨rfl, k6, e6⟩
  have K6 := hid_of k6
  have E6 := hid_of (E5.out.trans e6)
  clear k6 e6 C5
  have C6 := hid_of (op_append (s := ⟨#[98]⟩) (t := ⟨#[110, 101, 119]⟩) (t6 [111, 108, 100] [110, 101, 119]) K6.out rfl (by decide) (show (5 : Nat) + 1 < 1099511627776 by decide) (fun x hx => by cases hx; decide) (by decide))
  go_wp2_with fail
  refine C6.out.mono ?_
  rintro e w7 ⟨rfl, k7, e7⟩
  have K7 := hid_of k7
  have E7 := hid_of (E6.out.trans e7)
  clear k7 e7 C6
  have C7 := hid_of (op_sync (s := ⟨#[98]⟩) (t7 [111, 108, 100] [110, 101, 119]) K7.out rfl (by decide) (show (6 : Nat) + 1 < 1099511627776 by decide))
  go_wp2_with fail
  refine C7.out.mono ?_
  rintro e w8 ⟨rfl, k8, e8⟩
  have K8 := hid_of k8
  have E8 := hid_of (E7.out.trans e8)
  clear k8 e8 C7
  have C8 := hid_of (op_rename (s := ⟨#[98]⟩) (t := ⟨#[97]⟩) (t8 [111, 108, 100] [110, 101, 119]) K8.out rfl (by decide) (by decide) (show (7 : Nat) + 1 < 1099511627776 by decide))
  go_wp2_with fail
  refine C8.out.mono ?_
  rintro e w9 ⟨rfl, k9, e9⟩
  have K9 := hid_of k9
  have E9 := hid_of (E8.out.trans e9)
  clear k9 e9 C8
  have C9 := hid_of (op_crash (cn := 1) (a0 := none) (n0 := 0) (c0 := 0) (bytes := []) tc K9.out (show (8 : Nat) < 1099511627776 by decide) (by decide) (fun W hW => ⟨none, 0, rfl, Or.inl rfl⟩) (sy8 [111, 108, 100] [110, 101, 119] 1))
  go_wp2_with fail
  refine C9.out.mono ?_
  rintro e w10 ⟨rfl, k10, e10⟩
  have K10 := hid_of k10
  have E10 := hid_of (E9.out.trans e10)
  clear k10 e10 C9
  have C10 := hid_of (op_read (s := ⟨#[97]⟩) (t := ⟨#[111, 108, 100]⟩) rc1 K10.out (by decide))
  go_wp2_with fail
  refine C10.out.mono ?_
  rintro e w11 ⟨rfl, k11, e11⟩
  have K11 := hid_of k11
  have E11 := hid_of (E10.out.trans e11)
  clear k11 e11 C10
  have C11 := hid_of (op_read (s := ⟨#[98]⟩) (t := ⟨#[110, 101, 119]⟩) rc2 K11.out (by decide))
  go_wp2_with fail
  refine C11.out.mono ?_
  rintro e w12 ⟨rfl, k12, e12⟩
  have K12 := hid_of k12
  have E12 := hid_of (E11.out.trans e12)
  clear k12 e12 C11
  have C12 : Hid (Calls Try.prog 14 #[P0 b] w12 fun e w' => ∃ (g cap : Nat), e = .returned (.slice (some ⟨g, 0, none⟩) 2 cap) ∧ Below w12.heap.size w12 w') := by
    obtain ⟨y, k⟩ := K12.out
    exact (names_call base b y dc w12 k rfl (show (8 : Nat) < 1099511627776 by decide)).mono fun e w' ⟨g, cap, h1, _, h3⟩ => ⟨g, cap, h1, h3⟩
  go_wp2_with fail
  refine C12.out.mono ?_
  rintro e w13 ⟨g, cap, rfl, e13⟩
  have E13 := hid_of (E12.out.trans (Ev.of_below e13))
  clear e13 C12
  go_wp2_with fail
  go_ret
  refine ⟨rfl, ?_⟩
  rw [← HBS.out]
  exact V1.out.trans (E13.out.below (by have := V1.out.size; rw [HBS.out]; rw [HBS.out] at V1; exact V1.out.size))
/- nothing of the disk has turned -/
theorem DK.stay {base b : Nat} {y : Lay} {d : Dk} {w w' : World} (h : DK base b y d w) (hk : ∀ k, k < w.heap.size → (DT (kd w k) || kd w k == 60) = true → w'.heap[k]? = w.heap[k]?) (hs : w.heap.size ≤ w'.heap.size) : DK base b y d w' := by
  have hr : ∀ {e sz n : Nat} {v : Value} {xs : List Value}, w.ownsRow base e sz v n xs → (DT (e + 2) || e + 2 == 60) = true → ∀ g, v.ownBlock = some g → w'.heap[g]? = w.heap[g]? := fun hrow ht g hg => by
    obtain ⟨q1, q2, q3⟩ := row_kd hrow hg
    exact hk g q2 (by rw [q1]; exact ht)
  exact ⟨(hk b (lt_of h.disk) (by rw [kd_cells h.disk]; rfl)).trans h.disk, h.bb, h.nb, h.lb, h.ne, map_later h.nm (hk _ h.nm.lt (by rw [owns_kd h.nm]; rfl)), map_later h.ls (hk _ h.ls.lt (by rw [owns_kd h.ls]; rfl)),
    row_later h.op (hr h.op rfl), plan_later h.pl (fun k hk2 e => hk k hk2 (by rw [e]; rfl)), fun i x hx => by
      have q := h.fl i x hx
      exact file_later q (hk _ (lt_of q.blk) (by rw [kd_cells q.blk]; rfl)) (hr q.row rfl), h.inj, h.apart, h.ok, Nat.le_trans h.hb hs⟩
/- two rows that may be spoilt, two that stand, the disk -/
def dN : Dk := ⟨[([], 0), ([], 0)], [([97], 0), ([98], 1)], [([97], 0), ([98], 1)], [], [], 3, false⟩
def AB : List Bs := [[97], [98]]
structure Sp (base b : Nat) (w : World) (xv pv : Value) (n m : Nat) (gx gp : Nat) (gy cy gq cq : Nat) (W : World) : Prop where
  dk : ∃ y, DK base b y dN W
  bel : Below base w W
  xr : ∃ xs, W.ownsRow base 9 1 xv n xs
  pr : ∃ ps, W.ownsRow base 9 1 pv m ps
  yr : W.ownsRow base 9 1 (.slice (some ⟨gy, 0, none⟩) 2 cy) 2 (AB.map encStr)
  qr : W.ownsRow base 9 1 (.slice (some ⟨gq, 0, none⟩) 2 cq) 2 (AB.map encStr)
  xo : xv.ownBlock = some gx
  po : pv.ownBlock = some gp
  xp : gx ≠ gp
  xy : gx ≠ gy
  xq : gx ≠ gq
  py : gp ≠ gy
  pq : gp ≠ gq
section
variable {base b : Nat} {w : World} {xv pv : Value} {n m gx gp gy cy gq cq : Nat} {W : World}
theorem Sp.below {W' : World} (h : Sp base b w xv pv n m gx gp gy cy gq cq W) (hb : Below W.heap.size W W') : Sp base b w xv pv n m gx gp gy cy gq cq W' := by
  obtain ⟨y, hd⟩ := h.dk
  obtain ⟨xs, hx⟩ := h.xr
  obtain ⟨ps, hp⟩ := h.pr
  have hk : ∀ {v : Value} {n : Nat} {xs : List Value}, W.ownsRow base 9 1 v n xs → W'.ownsRow base 9 1 v n xs := fun hr => row_later hr fun g hg => hb.block g (row_kd hr hg).2.1
  exact ⟨⟨y, hd.below hb⟩, h.bel.trans (hb.mono hd.hb), ⟨xs, hk hx⟩, ⟨ps, hk hp⟩, hk h.yr, hk h.qr, h.xo, h.po, h.xp, h.xy, h.xq, h.py, h.pq⟩
theorem Sp.alloc (h : Sp base b w xv pv n m gx gp gy cy gq cq W) (o : Obj) : Sp base b w xv pv n m gx gp gy cy gq cq (W.alloc o) := h.below ((Below.refl _ W).alloc (Nat.le_refl _) o)
theorem Sp.x {W' : World} {v' : Value} {n' : Nat} {xs' : List Value} (h : Sp base b w xv pv n m gx gp gy cy gq cq W) (hx' : W'.ownsRow base 9 1 v' n' xs') (hg : W.grownBy W' xv.ownBlock) (hat : v'.ownBlock = xv.ownBlock ∨ v'.ownBlock = some W.heap.size) : ∃ gx', Sp base b w v' pv n' m gx' gp gy cy gq cq W' := by
  obtain ⟨y, hd⟩ := h.dk
  obtain ⟨xs, hx⟩ := h.xr
  obtain ⟨ps, hp⟩ := h.pr
  rw [h.xo] at hg hat
  have hkx := row_kd hx h.xo
  have hkp := row_kd hp h.po
  have hky := row_kd h.yr (g := gy) rfl
  have hkq := row_kd h.qr (g := gq) rfl
  have ne : ∀ k, k ≠ gx → k < W.heap.size → W'.heap[k]? = W.heap[k]? := fun k hk hl => hg.block k hl (fun e => hk (by cases e; rfl))
  have hdk : DK base b y dN W' := DK.stay hd (fun k hk ht => ne k (fun e => by rw [e, hkx.1] at ht; cases ht) hk) hg.size
  have hbl : Below base w W' := h.bel.trans ⟨hg.os, hg.tape, hg.output, hg.size, fun k hk => ne k (by have := hkx.2.2; omega) (Nat.lt_of_lt_of_le hk hd.hb)⟩
  have hk : ∀ {v : Value} {n g0 : Nat} {xs : List Value}, W.ownsRow base 9 1 v n xs → v.ownBlock = some g0 → gx ≠ g0 → W'.ownsRow base 9 1 v n xs := fun hr ho hne => row_later hr fun g hg => by
    rw [ho] at hg
    cases hg
    exact ne _ (fun e => hne e.symm) (row_kd hr ho).2.1
  rcases hat with e | e
  · exact ⟨gx, ⟨y, hdk⟩, hbl, ⟨_, hx'⟩, ⟨_, hk hp h.po h.xp⟩, hk h.yr rfl h.xy, hk h.qr rfl h.xq, e, h.po, h.xp, h.xy, h.xq, h.py, h.pq⟩
  · exact ⟨W.heap.size, ⟨y, hdk⟩, hbl, ⟨_, hx'⟩, ⟨_, hk hp h.po h.xp⟩, hk h.yr rfl h.xy, hk h.qr rfl h.xq, e, h.po, by omega, by omega, by omega, h.py, h.pq⟩
theorem Sp.flip (h : Sp base b w xv pv n m gx gp gy cy gq cq W) : Sp base b w pv xv m n gp gx gy cy gq cq W :=
  ⟨h.dk, h.bel, h.pr, h.xr, h.yr, h.qr, h.po, h.xo, h.xp.symm, h.py, h.pq, h.xy, h.xq⟩
theorem Sp.p {W' : World} {v' : Value} {m' : Nat} {ps' : List Value} (h : Sp base b w xv pv n m gx gp gy cy gq cq W) (hp' : W'.ownsRow base 9 1 v' m' ps') (hg : W.grownBy W' pv.ownBlock) (hat : v'.ownBlock = pv.ownBlock ∨ v'.ownBlock = some W.heap.size) : ∃ gp', Sp base b w xv v' n m' gx gp' gy cy gq cq W' := by
  obtain ⟨g, hs⟩ := h.flip.x hp' hg hat
  exact ⟨g, hs.flip⟩
end
theorem row_low {w : World} {base base' e sz n : Nat} {v : Value} {xs : List Value} (h : w.ownsRow base e sz v n xs) (hb : base' ≤ base) : w.ownsRow base' e sz v n xs := by
  refine ⟨h.1, ?_⟩
  rcases h.2 with hn | ⟨g, cap, cur, hv, hg, r⟩
  · exact Or.inl hn
  · exact Or.inr ⟨g, cap, cur, hv, Nat.le_trans hb hg, r⟩
theorem row_on {w w' : World} {base base' e sz n : Nat} {v : Value} {xs : List Value} (h : w.ownsRow base e sz v n xs) (hb : base' ≤ base) (k : Below w.heap.size w w') : w'.ownsRow base' e sz v n xs :=
  row_later (row_low h hb) fun g hg => k.block g (row_kd h hg).2.1
theorem sp_mk {base b : Nat} {w W0 W1 W2 W3 W4 : World} {gx cx gy cy gp cp gq cq : Nat} (hd : ∃ y, DK base b y dN W0) (hb0 : Below base w W0)
    (x : W1.ownsRow W0.heap.size 9 1 (.slice (some ⟨gx, 0, none⟩) 2 cx) 2 (AB.map encStr)) (b1 : Below W0.heap.size W0 W1)
    (y : W2.ownsRow W1.heap.size 9 1 (.slice (some ⟨gy, 0, none⟩) 2 cy) 2 (AB.map encStr)) (b2 : Below W1.heap.size W1 W2)
    (p : W3.ownsRow W2.heap.size 9 1 (.slice (some ⟨gp, 0, none⟩) 2 cp) 2 (AB.map encStr)) (b3 : Below W2.heap.size W2 W3)
    (q : W4.ownsRow W3.heap.size 9 1 (.slice (some ⟨gq, 0, none⟩) 2 cq) 2 (AB.map encStr)) (b4 : Below W3.heap.size W3 W4) :
    Sp base b w (.slice (some ⟨gx, 0, none⟩) 2 cx) (.slice (some ⟨gp, 0, none⟩) 2 cp) 2 2 gx gp gy cy gq cq W4 := by
  obtain ⟨l, hd⟩ := hd
  have h0 := hd.hb
  have h1 := b1.size
  have h2 := b2.size
  have h3 := b3.size
  have h4 := b4.size
  have kx := row_kd x (g := gx) rfl
  have ky := row_kd y (g := gy) rfl
  have kp := row_kd p (g := gp) rfl
  have kq := row_kd q (g := gq) rfl
  have b34 : Below W2.heap.size W2 W4 := b3.trans (b4.mono h3)
  have b24 : Below W1.heap.size W1 W4 := b2.trans (b34.mono h2)
  have b14 : Below W0.heap.size W0 W4 := b1.trans (b24.mono h1)
  exact ⟨⟨l, hd.below b14⟩, hb0.trans (b14.mono h0), ⟨_, row_on x h0 b24⟩, ⟨_, row_on p (by omega) (b4)⟩, row_on y (by omega) b34, row_low q (by omega), rfl, rfl, by omega, by omega, by omega, by omega, by omega⟩
/- both are spoilt -/
theorem sp_spoil {base b : Nat} {w : World} {n m gx cx gp cp gy cy gq cq : Nat} {W : World} (h : Sp base b w (.slice (some ⟨gx, 0, none⟩) n cx) (.slice (some ⟨gp, 0, none⟩) m cp) n m gx gp gy cy gq cq W) (i j : Nat) (hi : i < n) (hj : j < m) (u v : Value) :
    (∃ c, W.cell? ⟨gx, i, none⟩ = some c) ∧ W.frozen? ⟨gx, i, none⟩ = false ∧ (∃ c, (W.setCell ⟨gx, i, none⟩ u).cell? ⟨gp, j, none⟩ = some c) ∧ (W.setCell ⟨gx, i, none⟩ u).frozen? ⟨gp, j, none⟩ = false ∧
    Sp base b w (.slice (some ⟨gx, 0, none⟩) n cx) (.slice (some ⟨gp, 0, none⟩) m cp) n m gx gp gy cy gq cq ((W.setCell ⟨gx, i, none⟩ u).setCell ⟨gp, j, none⟩ v) := by
  obtain ⟨xs, hx⟩ := h.xr
  obtain ⟨ps, hp⟩ := h.pr
  have s1 := hx.stored i u
  obtain ⟨gx', h1⟩ := h.x s1.1 (by rw [h.xo]; exact s1.2) (Or.inl rfl)
  have e1 := h1.xo
  rw [h.xo] at e1
  cases e1
  obtain ⟨ps1, hp1⟩ := h1.pr
  have s2 := hp1.stored j v
  obtain ⟨gp', h2⟩ := h1.p s2.1 (by rw [h.po]; exact s2.2) (Or.inl rfl)
  have e2 := h2.po
  rw [h.po] at e2
  cases e2
  have l1 : xs.length = n * 1 := hx.1
  have l2 : ps1.length = m * 1 := hp1.1
  refine ⟨⟨xs[i]'(by omega), ?_⟩, hx.frozenAt i, ⟨ps1[j]'(by omega), ?_⟩, hp1.frozenAt j, h2⟩
  · rw [hx.cellAt i (by omega), List.getElem?_eq_getElem]
  · rw [hp1.cellAt j (by omega), List.getElem?_eq_getElem]
end Go.Proofs.Ytilbffbmpgebmaa.None2
