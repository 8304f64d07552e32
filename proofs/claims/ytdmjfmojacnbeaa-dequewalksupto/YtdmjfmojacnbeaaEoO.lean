/- The law's do where it only asks. -/
import Derived.Test.YtdmjfmojacnbeaaEoD
namespace Go.Proofs.Ytdmjfmojacnbeaa.EoO
open Go.RowKit
open Go.Proofs.Ytdmjfmojacnbeaa.Base
open Go.Proofs.Ytdmjfmojacnbeaa.Held
open Go.Proofs.Ytdmjfmojacnbeaa.Lay
open Go.Proofs.Ytdmjfmojacnbeaa.Free
open Go.Proofs.Ytdmjfmojacnbeaa.Keep
open Go.Proofs.Ytdmjfmojacnbeaa.Pop
open Go.Proofs.Ytdmjfmojacnbeaa.Place
open Go.Proofs.Ytdmjfmojacnbeaa.Piece
open Go.Proofs.Ytdmjfmojacnbeaa.App
open Go.Proofs.Ytdmjfmojacnbeaa.FindMath
open Go.Proofs.Ytdmjfmojacnbeaa.Find
open Go.Proofs.Ytdmjfmojacnbeaa.FindA
open Go.Proofs.Ytdmjfmojacnbeaa.DropC
open Go.Proofs.Ytdmjfmojacnbeaa.Remove
open Go.Proofs.Ytdmjfmojacnbeaa.Insert
open Go.Proofs.Ytdmjfmojacnbeaa.Same
open Go.Proofs.Ytdmjfmojacnbeaa.Awake
open Go.Proofs.Ytdmjfmojacnbeaa.Ends
open Go.Proofs.Ytdmjfmojacnbeaa.Ref
open Go.Proofs.Ytdmjfmojacnbeaa.RefB
open Go.Proofs.Ytdmjfmojacnbeaa.RefC
open Go.Proofs.Ytdmjfmojacnbeaa.EoA
open Go.Proofs.Ytdmjfmojacnbeaa.EoB
open Go.Proofs.Ytdmjfmojacnbeaa.RFind
open Go.Proofs.Ytdmjfmojacnbeaa.RFindB
set_option linter.unusedVariables false
set_option linter.unusedSimpArgs false
theorem rfind_zero (u1 : Option Addr) (u2 u3 : Nat) (v : El) (count most : Int) (w : World) : Calls Try.prog 50 #[.slice u1 u2 u3, V v, .int .i64 0, .int .i64 count, .int .i64 most] w fun e w' => e = .returned (.slice none 0 0) ∧ w' = w := by
  go_enter Try.func50, Try.ntmps50
  go_wp2_with fail
  go_ret
  exact ⟨rfl, rfl⟩
theorem rfind_call {G : Nat → Prop} {w : World} {u : Value} {l : List El} (h : SL G w u l) (v : El) (rank count most : Int) (hr : In rank) (hb : l.length * 8 ≤ 140737488355328) :
    Calls Try.prog 50 #[u, V v, .int .i64 rank, .int .i64 count, .int .i64 most] w fun e w' => ∃ v', e = .returned v' ∧ Base.NR w.heap.size w' v' (findS l v rank count most) ∧ Below w.heap.size w w' := by
  unfold In at hr
  unfold findS
  by_cases h0 : rank = 0
  · subst h0
    rw [if_pos rfl]
    obtain ⟨a, c, rfl, _⟩ := h
    exact (rfind_zero a _ c v count most w).mono fun e w' ⟨he, hw⟩ => ⟨_, he, .inl ⟨rfl, rfl⟩, by rw [hw]; exact Below.refl _ _⟩
  · rw [if_neg h0]
    by_cases h1 : 0 < rank
    · rw [show decide (rank < 0) = false by simp; omega]
      have := rfind_pos h v rank.natAbs count most (by omega) (by omega) hb
      rw [show ((rank.natAbs : Nat) : Int) = rank by omega] at this
      exact this
    · rw [show decide (rank < 0) = true by simp; omega]
      have := rfind_neg h v rank.natAbs count most (by omega) (by omega) hb
      rw [show -((rank.natAbs : Nat) : Int) = rank by omega] at this
      exact this
set_option maxHeartbeats 4000000 in
set_option maxRecDepth 100000 in
theorem do_else {F : Nat → Prop} {B : Cx} {b : Nat} {l m : List El} {u : Value} {la : Option Addr} {lc : Nat} {w0 w : World} (h : Sx F B b l u w0 w) (hm : SL B.Lo w (.slice la m.length lc) m) (K A Bq C : Int) (bf : Bool) (k0 : (K == 0) = false) (k1 : (K == 1) = false) (k2 : (K == 2) = false) (k3 : (K == 3) = false) (k4 : (K == 4) = false) (k5 : (K == 5) = false) (k6 : (K == 6) = false) (k7 : (K == 7) = false) (hA : In A) (hBq : In Bq) (hb : 3 * (l.length + m.length) ≤ 4194304) :
    Calls Try.prog 11 #[ptr b, u, .agg (box K A Bq C (.slice la m.length lc) bf)] w (DoE B b (doS l ⟨K, m, A, Bq, C, bf⟩) w0) := by
  obtain ⟨v1, w1, g, gc, w2, hrun1, hrun2, hgv, hg, hbx, kk2⟩ := given_run K A Bq C bf hm (by omega)
  have E2 := hid_of (h.read kk2)
  have c0 : w2.cell? ⟨w.heap.size, 0, none⟩ = some (.int .i64 K) := Lib.cell_of_heap hbx 0
  have c2 : w2.cell? ⟨w.heap.size, 2, none⟩ = some (.int .i64 A) := Lib.cell_of_heap hbx 2
  have c3 : w2.cell? ⟨w.heap.size, 3, none⟩ = some (.int .i64 Bq) := Lib.cell_of_heap hbx 3
  have c5 : w2.cell? ⟨w.heap.size, 5, none⟩ = some (.bool bf) := Lib.cell_of_heap hbx 5
  have HBx := hid_of hbx
  have hX : Hid (∀ k, F k → k < w.heap.size) := fun k e => (h.ow k e).2
  have hXw : w.heap.size < w2.heap.size := lt_of hbx
  obtain ⟨u1, u2, u3, rfl⟩ : ∃ u1 u2 u3, u = .slice u1 u2 u3 := by
    obtain ⟨a, c, e, _⟩ := h.sl
    exact ⟨a, _, c, e⟩
  have HA := hid_of hA
  have HBq := hid_of hBq
  have HL := hid_of (show (l.length + 1) * 8 ≤ 140737488355328 ∧ (3 * l.length + 2) * 8 ≤ 281474976710656 ∧ l.length ≤ 35184372088832 by omega)
  have c1 : w2.cell? ⟨w.heap.size, 1, none⟩ = some (.slice la m.length lc) := Lib.cell_of_heap hbx 1
  have c4 : w2.cell? ⟨w.heap.size, 4, none⟩ = some (.int .i64 C) := Lib.cell_of_heap hbx 4
  have hdo : Hid (doS l ⟨K, m, A, Bq, C, bf⟩ = l) := by
    show doS l ⟨K, m, A, Bq, C, bf⟩ = l
    unfold doS
    rw [if_neg (by simpa using k0), if_neg (by simpa using k1), if_neg (by simpa using k2), if_neg (by simpa using k3), if_neg (by simpa using k4), if_neg (by simpa using k5), if_neg (by simpa using k6), if_neg (by simpa using k7)]
  rw [hdo.out]
  have HP := hid_of (at_call E2.out.dq A HA.out.1)
  obtain ⟨x, HX⟩ : ∃ x, Hid (x = (atS l A).1) := ⟨_, hid_of rfl⟩
  obtain ⟨t, HT⟩ : ∃ t, Hid (t = (atS l A).2) := ⟨_, hid_of rfl⟩
  rw [← HX.out, ← HT.out] at HP
  have bm : m.length ≤ 1048576 * 4 := by omega
  clear h hm hgv hbx kk2 hA hBq hb
  go_enter Try.func11, Try.ntmps11
  go_wp2_with (first | (at_builtin; refine wpl_eq rfl _ _ 22 22 rfl (.slice none 0 0) (.slice la m.length lc) v1 _ w1 rfl rfl hrun1 ?_; clear hrun1) | (at_builtin; refine wpl_eq rfl _ _ 22 22 rfl v1 (.slice (some ⟨w1.heap.size, 0, none⟩) 1 1) (.slice (some ⟨g, 0, none⟩) (m.length + 1) gc) _ w2 rfl rfl hrun2 ?_; clear hrun2))
  refine HP.out.mono ?_
  rintro e w3 ⟨rfl, r3⟩
  have E3 := hid_of (E2.out.read r3)
  have x3 : w3.heap[w.heap.size]? = some (.cells (box K A Bq C (.slice la m.length lc) bf) 30 (0, 0)) := (r3.block _ hXw).trans HBx.out
  have HR := hid_of (rat_call E3.out.sl A HA.out.1 HL.out.2.2)
  rw [← HX.out, ← HT.out] at HR
  have sz3 : w.heap.size < w3.heap.size := lt_of x3
  have HCl := hid_of (fun (W : World) (k : Below w3.heap.size w3 W) => (show W.cell? ⟨w.heap.size, 1, none⟩ = some (.slice la m.length lc) ∧ W.cell? ⟨w.heap.size, 2, none⟩ = some (.int .i64 A) ∧ W.cell? ⟨w.heap.size, 3, none⟩ = some (.int .i64 Bq) ∧ W.cell? ⟨w.heap.size, 4, none⟩ = some (.int .i64 C) from
    ⟨Lib.cell_of_heap ((k.block _ sz3).trans x3) 1, Lib.cell_of_heap ((k.block _ sz3).trans x3) 2, Lib.cell_of_heap ((k.block _ sz3).trans x3) 3, Lib.cell_of_heap ((k.block _ sz3).trans x3) 4⟩))
  obtain ⟨e1, e2, e3, e4⟩ := HCl.out w3 (Below.refl _ _)
  clear r3 x3 c0 c1 c2 c3 c4 c5
  go_wp2_with fail
  refine HR.out.mono ?_
  rintro e w4 ⟨rfl, hw4⟩
  rw [hw4]
  clear hw4
  have nrm : ∀ {f : FuncId} {args : Array Value} {W : World} {ls : List El}, Below w3.heap.size w3 W → (Calls Try.prog f args W fun e w' => ∃ v, e = .returned v ∧ NR W.heap.size w' v ls ∧ Below W.heap.size W w') → Calls Try.prog f args W fun e w' => ∃ v, e = .returned v ∧ Hid (NR w3.heap.size w' v ls ∧ Below W.heap.size W w' ∧ Below w3.heap.size w3 w') ∧ w'.cell? ⟨w.heap.size, 1, none⟩ = some (.slice la m.length lc) ∧ w'.cell? ⟨w.heap.size, 2, none⟩ = some (.int .i64 A) ∧ w'.cell? ⟨w.heap.size, 3, none⟩ = some (.int .i64 Bq) ∧ w'.cell? ⟨w.heap.size, 4, none⟩ = some (.int .i64 C) := fun {f args W ls} k hc =>
    hc.mono fun e w' ⟨v, h1, h2, h3⟩ => ⟨v, h1, ⟨h2.mono k.size, h3, k.trans (h3.mono k.size)⟩, HCl.out w' (k.trans (h3.mono k.size))⟩
  have H40 := hid_of (fun (W : World) (k : Below w3.heap.size w3 W) => nrm k (slice_call (E3.out.read k).dq A Bq HA.out.1 HBq.out.1 HA.out.2 HBq.out.2 (by have := HL.out; omega)))
  have H34 := hid_of (fun (W : World) (k : Below w3.heap.size w3 W) => nrm k (rpiece_call (E3.out.read k).sl A Bq HA.out.1 HBq.out.1 HA.out.2 HBq.out.2 (by have := HL.out; omega)))
  have H43 := hid_of (fun (W : World) (k : Below w3.heap.size w3 W) => nrm k (find_call (E3.out.read k).dq A Bq C (m.length : Int) HBq.out.1 HBq.out.2 (by have := HL.out; omega)))
  have H50 := hid_of (fun (W : World) (k : Below w3.heap.size w3 W) => nrm k (rfind_call (E3.out.read k).sl A Bq C (m.length : Int) HBq.out (by have := HL.out; omega)))
  have hpl : (pieceS l A Bq).length ≤ l.length := by unfold pieceS; simp; omega
  have hfl : (findS l A Bq C (m.length : Int)).length ≤ l.length := by
    unfold findS
    split
    · simp
    · rw [ints_len]; exact Nat.le_trans (SortC.find_len _ _ _ _ _ _) (looked_le _ _)
  have H13 := hid_of (fun (W : World) (a c : Value) (ls : List El) (hls : ls.length ≤ l.length) (k : Below w3.heap.size w3 W) (h1 : NR w3.heap.size W a ls) (h2 : NR w3.heap.size W c ls) => (show Calls Try.prog 13 #[a, c] W fun e w' => e = .returned (.bool true) ∧ Hid (Below w3.heap.size w3 w') ∧ w'.cell? ⟨w.heap.size, 1, none⟩ = some (.slice la m.length lc) ∧ w'.cell? ⟨w.heap.size, 2, none⟩ = some (.int .i64 A) ∧ w'.cell? ⟨w.heap.size, 3, none⟩ = some (.int .i64 Bq) ∧ w'.cell? ⟨w.heap.size, 4, none⟩ = some (.int .i64 C) from
    (same_call h1.sl h2.sl rfl (by have := HL.out; omega)).mono fun e w' ⟨a1, j, a2⟩ => ⟨a1, by rw [a2]; exact k.trans ((bel_drewN W j).mono k.size), by rw [a2]; exact HCl.out _ (k.trans ((bel_drewN W j).mono k.size))⟩))
  have HPL := hid_of (And.intro hpl hfl)
  have KD : Hid (Below w3.heap.size w3 w3.drew) := bel_drewN w3 1
  have xx : (x == x) = true := by simp
  have tt : (t == t) = true := by simp
  clear nrm hpl hfl
  go_wp2_with fail
  go_region_held3 (fun W => W.cell? ⟨w.heap.size, 1, none⟩ = some (.slice la m.length lc) ∧ W.cell? ⟨w.heap.size, 2, none⟩ = some (.int .i64 A) ∧ W.cell? ⟨w.heap.size, 3, none⟩ = some (.int .i64 Bq) ∧ W.cell? ⟨w.heap.size, 4, none⟩ = some (.int .i64 C)) (first | exact ⟨e1, e2, e3, e4⟩ | exact p1 | exact p2 | exact p3 | exact p4 | exact p5 | exact p6) (first
    | (go_at_call 40; have hk := N34.out; refine (H40.out _ hk.2.2).mono ?_; rintro e w5 ⟨v40, rfl, N40, p2⟩; have G34 := hid_of (hk.1.below N40.out.2.1); have G40 := hid_of N40.out.1; have KA := hid_of N40.out.2.2; clear hk H40)
    | (go_at_call 34; have hk := N40.out; refine (H34.out _ hk.2.2).mono ?_; rintro e w5 ⟨v34, rfl, N34, p2⟩; have G40 := hid_of (hk.1.below N34.out.2.1); have G34 := hid_of N34.out.1; have KA := hid_of N34.out.2.2; clear hk H34)
    | (go_at_call 40; refine (H40.out _ KD.out).mono ?_; rintro e w4 ⟨v40, rfl, N40, p1⟩; clear H40)
    | (go_at_call 34; refine (H34.out _ KD.out).mono ?_; rintro e w4 ⟨v34, rfl, N34, p1⟩; clear H34)
    | (go_at_call 43; have hk := N50.out; refine (H43.out _ hk.2.2).mono ?_; rintro e w8 ⟨v43, rfl, N43, p5⟩; have G50 := hid_of (hk.1.below N43.out.2.1); have G43 := hid_of N43.out.1; have KC := hid_of N43.out.2.2; clear hk H43)
    | (go_at_call 50; have hk := N43.out; refine (H50.out _ hk.2.2).mono ?_; rintro e w8 ⟨v50, rfl, N50, p5⟩; have G43 := hid_of (hk.1.below N50.out.2.1); have G50 := hid_of N50.out.1; have KC := hid_of N50.out.2.2; clear hk H50)
    | (go_at_call 13; have hk := KC.out; refine (H13.out _ _ _ _ HPL.out.2 hk G43.out G50.out).mono ?_; rintro e w9 ⟨rfl, KE, p6⟩; clear hk)
    | (go_at_call 43; have hk := KB.out; refine (H43.out _ hk).mono ?_; rintro e w7 ⟨v43, rfl, N43, p4⟩; clear hk H43)
    | (go_at_call 50; have hk := KB.out; refine (H50.out _ hk).mono ?_; rintro e w7 ⟨v50, rfl, N50, p4⟩; clear hk H50)
    | (go_at_call 13; have hk := KA.out; refine (H13.out _ _ _ _ HPL.out.1 hk G40.out G34.out).mono ?_; rintro e w6 ⟨rfl, KB, p3⟩; clear hk))
  all_goals
    go_wp2_with fail
    go_ret2
    exact ⟨_, by first | rfl | simp, F, E3.out.read KE.out⟩
end Go.Proofs.Ytdmjfmojacnbeaa.EoO
