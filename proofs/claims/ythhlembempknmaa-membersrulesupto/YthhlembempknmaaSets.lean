/- MembersSets, walked. -/
import Derived.Test.YthhlembempknmaaKept
namespace Go.Proofs.Ythhlembempknmaa.Sets
open Go.RowKit Go.Sort
open Go.Proofs.Ythhlembempknmaa.SetMath
open Go.Proofs.Ythhlembempknmaa.Base
open Go.Proofs.Ythhlembempknmaa.Small
open Go.Proofs.Ythhlembempknmaa.Of
open Go.Proofs.Ythhlembempknmaa.Lists
open Go.Proofs.Ythhlembempknmaa.ROf
open Go.Proofs.Ythhlembempknmaa.Code
open Go.Proofs.Ythhlembempknmaa.After
open Go.Proofs.Ythhlembempknmaa.Awake
open Go.Proofs.Ythhlembempknmaa.RefK
open Go.Proofs.Ythhlembempknmaa.Twins
open Go.Proofs.Ythhlembempknmaa.Kept
set_option linter.unusedVariables false
set_option linter.unusedSimpArgs false
theorem ll_one {G : Nat → Prop} {w : World} {u : Value} {l : List El} (h : SL G w u l) : LL (fun _ => True) (w.alloc (.cells #[u] 22)) (some ⟨w.heap.size, 0, none⟩) [l] [u] :=
  ll_new (G := fun _ => True) rfl fun j x y h1 h2 => by
    match j with
    | 0 => cases h1; cases h2; exact h.mono fun _ _ _ => trivial
    | j + 1 => simp at h1
/-- all that came to be since w0 lies above it -/
structure On (w0 w : World) : Prop where
  bl : Below w0.heap.size w0 w
theorem On.refl (w : World) : On w w := ⟨Below.refl _ _⟩
theorem On.go {w0 w w' : World} (h : On w0 w) (b : Below w.heap.size w w') : On w0 w' := ⟨bel h.bl b (Nat.le_refl _)⟩
theorem On.drewN {w0 w : World} (h : On w0 w) (n : Nat) : On w0 (w.drewN n) := ⟨bdrew h.bl n⟩
theorem On.alloc {w0 w : World} (h : On w0 w) (o : Obj) : On w0 (w.alloc o) := h.go ((Below.refl _ w).alloc (Nat.le_refl _) o)
set_option maxHeartbeats 2000000 in
set_option maxRecDepth 100000 in
theorem sets_call {G : Nat → Prop} {w : World} {v : Value} {l : List El} (m : Bs) (h : SL G w v l) (hb : l.length * 16 ≤ 140737488355328) :
    Calls Try.prog 3 #[v, V m] w fun e w' => e = .returned (.bool true) ∧ Below w.heap.size w w' := by
  have b0 := (Below.refl w.heap.size w).alloc (Nat.le_refl _) (.cells #[v] 22)
  have HT := hid_of (twins_call (c := 1) (ll_one h) (by simp) (by simp) (by rw [tot_cons]; simp [tot]; exact hb))
  have e1 : [l].length = 1 := rfl
  rw [e1] at HT
  have B0 := hid_of b0
  have HS := hid_of fun (W : World) (o : On w W) => h.below o.bl
  obtain ⟨a, c, rfl, _⟩ := SL.len h
  obtain ⟨n, HN⟩ : ∃ n, Hid (n = l.length) := ⟨_, hid_of rfl⟩
  rw [← HN.out] at hb HT HS B0 ⊢
  clear h b0 e1
  go_enter Try.func3, Try.ntmps3
  go_wp2_with fail
  refine HT.out.mono ?_
  rintro e w1 ⟨r1, us, rfl, tl, k1⟩
  have O1 := hid_of (⟨bel B0.out k1 (Nat.le_refl _)⟩ : On w w1)
  obtain ⟨ra, rc, rfl, hrc, ll⟩ := tl.ll
  obtain ⟨g1, o1, u1, rfl, c1, sl1⟩ := ll.get (j := 0) rfl
  rw [Nat.add_zero] at c1
  have C1 := hid_of fun (W : World) (o : On w1 W) => (World.cell?_of_block (w := w1) (o.bl.block g1 (cell_lt c1))).trans c1
  have S1 := hid_of fun (W : World) (o : On w1 W) => sl1.below o.bl
  have T1 := hid_of fun (W : World) (o : On w1 W) => tl.below o.bl
  obtain ⟨ua, uc, rfl, _⟩ := SL.len sl1
  have e1 : [l].length = 1 := rfl
  rw [e1] at T1 ⊢
  rw [← HN.out] at C1 S1 c1
  have HO := hid_of (of_call (S1.out w1 (On.refl w1)) (by rw [← HN.out]; exact hb))
  clear tl k1 ll sl1 HT B0 e1
  go_wp2_with fail
  refine HO.out.mono ?_
  rintro e w2 ⟨r2, rfl, q2, k2⟩
  have N2 := hid_of ((On.refl w1).go k2)
  have HR := hid_of (rof_call (HS.out w2 ⟨bel O1.out.bl k2 (Nat.le_refl _)⟩) (by rw [← HN.out]; exact hb))
  have Q2 := hid_of q2
  obtain ⟨ra2, rc2, rfl, _⟩ := q2.shape
  clear q2 k2 HO c1
  go_wp2_with fail
  refine HR.out.mono ?_
  rintro e w3 ⟨r3, rfl, q3, k3⟩
  have N3 := hid_of (N2.out.go k3)
  have HM := hid_of (same_true (Q2.out.below k3).sl q3.sl rfl (by have := len_S l; rw [← HN.out] at this; omega))
  obtain ⟨ra3, rc3, rfl, _⟩ := q3.shape
  generalize hz : (S l).length = z at *
  clear q3 k3 HR Q2 hz
  go_wp2_with fail
  refine HM.out.mono ?_
  rintro e w4 ⟨rfl, m4, hw4⟩
  have N4 : Hid (On w1 w4) := hid_of (by rw [hw4]; exact N3.out.drewN m4)
  have c4 := C1.out w4 N4.out
  have HV := hid_of (valid_call (S1.out w4 N4.out) (by rw [← HN.out]; omega))
  clear hw4 HM
  go_wp2_with fail
  refine HV.out.mono ?_
  rintro e w5 ⟨rfl, m5, hw5⟩
  have N5 : Hid (On w1 w5) := hid_of (by rw [hw5]; exact N4.out.drewN m5)
  have HV5 := hid_of (rvalid_call (HS.out w5 ⟨bel O1.out.bl N5.out.bl (Nat.le_refl _)⟩) (by rw [← HN.out]; omega))
  clear hw5 HV c4
  go_wp2_with fail
  refine HV5.out.mono ?_
  rintro e w6 ⟨rfl, m6, hw6⟩
  have N6 : Hid (On w1 w6) := hid_of (by rw [hw6]; exact N5.out.drewN m6)
  have c6 := C1.out w6 N6.out
  have HH := hid_of (has_call m (S1.out w6 N6.out) (by rw [← HN.out]; omega))
  clear hw6 HV5
  go_wp2_with fail
  refine HH.out.mono ?_
  rintro e w7 ⟨rfl, hw7⟩
  have N7 : Hid (On w1 w7) := hid_of (by rw [hw7]; exact N6.out)
  have HH7 := hid_of (rhas_call m (HS.out w7 ⟨bel O1.out.bl N7.out.bl (Nat.le_refl _)⟩) (by rw [← HN.out]; omega))
  clear hw7 HH c6
  go_wp2_with fail
  refine HH7.out.mono ?_
  rintro e w8 ⟨rfl, hw8⟩
  have N8 : Hid (On w1 w8) := hid_of (by rw [hw8]; exact N7.out)
  have HK := hid_of (kept_call (c' := 1) (T1.out _ (N8.out.alloc (.cells #[.slice a n c] 22))) (ll_one (HS.out w8 ⟨bel O1.out.bl N8.out.bl (Nat.le_refl _)⟩)) (by simp) (by intro x hx; rw [List.mem_singleton.1 hx, ← HN.out]; omega))
  clear hw8 HH7
  go_wp2_with fail
  refine HK.out.mono ?_
  rintro e w9 ⟨rfl, m9, hw9⟩
  have N9 : Hid (On w1 w9) := hid_of (by rw [hw9]; exact (N8.out.alloc _).drewN m9)
  have HA := hid_of (awake_call w9)
  clear hw9 HK
  go_wp2_with fail
  refine HA.out.mono ?_
  rintro e w10 ⟨rfl, k10⟩
  have K := hid_of (bel O1.out.bl (N9.out.go k10).bl (Nat.le_refl _))
  clear k10 HA
  go_wp2_with fail
  go_ret
  exact ⟨by simp, K.out⟩
end Go.Proofs.Ythhlembempknmaa.Sets
