/- The law's step: setting and dropping. -/
import Derived.Test.YtighoelipihifaaGreatDoorPlaysE
import Derived.Test.YtighoelipihifaaGreatDoorPlaysB
import Derived.Test.YtighoelipihifaaGreatDoorNames
import Derived.Test.YtighoelipihifaaGreatDoorSure
import Derived.Deep.RegionHeld3
namespace Go.Proofs.YtighoelipihifaaGreatDoor.PlaysF
open Go.RowKit Go.Maps Go.Sort
open Go.Proofs.YtighoelipihifaaGreatDoor.MapMath
open Go.Proofs.YtighoelipihifaaGreatDoor.RankMath
open Go.Proofs.YtighoelipihifaaGreatDoor.RankMath2
open Go.Proofs.YtighoelipihifaaGreatDoor.RankMath3
open Go.Proofs.YtighoelipihifaaGreatDoor.Base
open Go.Proofs.YtighoelipihifaaGreatDoor.Cmp
open Go.Proofs.YtighoelipihifaaGreatDoor.Rank1
open Go.Proofs.YtighoelipihifaaGreatDoor.Run
open Go.Proofs.YtighoelipihifaaGreatDoor.Seek
open Go.Proofs.YtighoelipihifaaGreatDoor.Bound
open Go.Proofs.YtighoelipihifaaGreatDoor.Scores
open Go.Proofs.YtighoelipihifaaGreatDoor.Names
open Go.Proofs.YtighoelipihifaaGreatDoor.Ref1
open Go.Proofs.YtighoelipihifaaGreatDoor.Sure
open Go.Proofs.YtighoelipihifaaGreatDoor.PlaysA
open Go.Proofs.YtighoelipihifaaGreatDoor.PlaysB
open Go.Proofs.YtighoelipihifaaGreatDoor.PlaysC
open Go.Proofs.YtighoelipihifaaGreatDoor.PlaysE
set_option linter.unusedVariables false
set_option linter.unusedSimpArgs false
structure OpD where
  K : Int
  nm : Bs
  A : Int
  Bq : Int
  lo : Bnd
  hi : Bnd
  tn : Bool
def opC (x : OpD) : Array Value := #[.int .i64 x.K, .string (mk x.nm), .int .i64 x.A, .int .i64 x.Bq, .int .i64 x.lo.inf, .bool x.lo.opn, .int .i64 x.lo.score, .string (mk x.lo.name), .int .i64 x.hi.inf, .bool x.hi.opn, .int .i64 x.hi.score, .string (mk x.hi.name), .bool x.tn]
structure OpOk (x : OpD) : Prop where
  nm : x.nm.length ≤ 140737488355328
  a1 : -9223372036854775808 ≤ x.A
  a2 : x.A ≤ 9223372036854775807
  b1 : -9223372036854775808 ≤ x.Bq
  b2 : x.Bq ≤ 9223372036854775807
  lo : x.lo.inf ≤ 9223372036854775807
  hi : x.hi.inf ≤ 9223372036854775807
def StE (B b : Nat) (m : EL) (w : World) (e : Ending) (w' : World) : Prop := ∃ v' m', e = .returned (.tuple #[v', .bool true]) ∧ RK B b m' w' ∧ FS w' v' m' ∧ Kp B w' v' ∧ Ev B w w' ∧ m'.length ≤ m.length + 1
theorem cells_ev {B : Nat} {V W : World} {b : Nat} {cs : Array Value} (h : V.heap[b]? = some (.cells cs 41 (0, 0))) (e : Ev B V W) : W.heap[b]? = some (.cells cs 41 (0, 0)) :=
  (e.block b (lt_of h) (by rintro ⟨_, h2⟩; rw [kd_cells h] at h2; revert h2; decide)).trans h
set_option maxHeartbeats 4000000 in
set_option maxRecDepth 100000 in
theorem step_set {B b : Nat} {m : EL} {v : Value} {w : World} (h : RK B b m w) (f : FS w v m) (kp : Kp B w v) (hB : B ≤ w.heap.size) (hn : m.length < big) (x : OpD) (ok' : OpOk x) (hK : x.K = 0) (hm : May x.A) : Calls Tryz.prog 14 #[ptr b, v, .agg (opC x)] w (StE B b m w) := by
  have hnb : m.length < 9000000000000 := hn
  have hU : Srt m ∧ Uq m := by obtain ⟨mm, t, ml, hx⟩ := h; exact ⟨hx.srt, hx.uq⟩
  obtain ⟨K, nm, A, Bq, ⟨li, lp, ls, ln⟩, ⟨ui, up, us, un⟩, tn⟩ := x
  unfold opC
  dsimp only at ok' ⊢ hK hm
  subst hK
  obtain ⟨V, hV⟩ : ∃ V, V = w.alloc (.cells #[.int .i64 0, .string (mk nm), .int .i64 A, .int .i64 Bq, .int .i64 li, .bool lp, .int .i64 ls, .string (mk ln), .int .i64 ui, .bool up, .int .i64 us, .string (mk un), .bool tn] 41) := ⟨_, rfl⟩
  have bV : Below w.heap.size w V := by rw [hV]; exact bnew w _
  have hx0 : V.heap[w.heap.size]? = some (.cells #[.int .i64 0, .string (mk nm), .int .i64 A, .int .i64 Bq, .int .i64 li, .bool lp, .int .i64 ls, .string (mk ln), .int .i64 ui, .bool up, .int .i64 us, .string (mk un), .bool tn] 41 (0, 0)) := by rw [hV]; exact heap_alloc_new w _
  have HV := hid_of hV
  have HOk := hid_of ok'
  have HBV := hid_of bV
  have HSz : Hid (B ≤ V.heap.size) := hid_of (Nat.le_trans hB bV.size)
  have RV := hid_of (h.below bV)
  have FV := hid_of (And.intro (f.below bV) (kp.below bV))
  have HC : Hid (∀ W, Ev B V W → (fun W : World => W.cell? ⟨w.heap.size, 0, none⟩ = some (.int .i64 0) ∧ W.cell? ⟨w.heap.size, 1, none⟩ = some (.string (mk nm)) ∧ W.cell? ⟨w.heap.size, 2, none⟩ = some (.int .i64 A) ∧ W.cell? ⟨w.heap.size, 3, none⟩ = some (.int .i64 Bq) ∧ W.cell? ⟨w.heap.size, 4, none⟩ = some (.int .i64 li) ∧ W.cell? ⟨w.heap.size, 5, none⟩ = some (.bool lp) ∧ W.cell? ⟨w.heap.size, 6, none⟩ = some (.int .i64 ls) ∧ W.cell? ⟨w.heap.size, 7, none⟩ = some (.string (mk ln)) ∧ W.cell? ⟨w.heap.size, 8, none⟩ = some (.int .i64 ui) ∧ W.cell? ⟨w.heap.size, 9, none⟩ = some (.bool up) ∧ W.cell? ⟨w.heap.size, 10, none⟩ = some (.int .i64 us) ∧ W.cell? ⟨w.heap.size, 11, none⟩ = some (.string (mk un)) ∧ W.cell? ⟨w.heap.size, 12, none⟩ = some (.bool tn)) W) := hid_of fun W e => by
    have y := cells_ev hx0 e
    exact ⟨Lib.cell_of_heap y 0, Lib.cell_of_heap y 1, Lib.cell_of_heap y 2, Lib.cell_of_heap y 3, Lib.cell_of_heap y 4, Lib.cell_of_heap y 5, Lib.cell_of_heap y 6, Lib.cell_of_heap y 7, Lib.cell_of_heap y 8, Lib.cell_of_heap y 9, Lib.cell_of_heap y 10, Lib.cell_of_heap y 11, Lib.cell_of_heap y 12⟩
  have cV := HC.out V (Ev.refl _ _)
  have HD : Hid (∀ W, Below V.heap.size V W → Ev B V W) := hid_of fun W k => Ev.of_below k
  have HE0 : Hid (∀ W, Ev B V W → Ev B w W) := hid_of fun W k => (Ev.of_below bV).trans k
  obtain ⟨a, c, rfl, _⟩ := id f
  clear h f kp hV bV hx0 ok'
  have H1 := hid_of (rset_call B _ m nm A V FV.out.1 FV.out.2 hU.1 hU.2 hn hm)
  have H2 := hid_of fun (W : World) (k : Below V.heap.size V W) => set_call (RV.out.below k) nm A HOk.out.nm hn hm
  have HLn : Hid ((setE m nm A).length ≤ m.length + 1) := hid_of (by rw [(setE_perm m nm A).length_eq, List.length_cons]; exact Nat.succ_le_succ (List.length_filter_le _ _))
  generalize ok m nm = O at *
  have hOO : ((!O) == (!O)) = true := by simp
  obtain ⟨s0, s1, s2, s3, s4, s5, s6, s7, s8, s9, s10, s11, s12⟩ := cV
  go_enter Tryz.func14, Tryz.ntmps14
  go_wp2_with fail
  rw [← HV.out]
  refine H1.out.mono ?_
  rintro e w1 ⟨v1, rfl, f1, k1, b1⟩
  obtain ⟨t0, t1, t2, t3, t4, t5, t6, t7, t8, t9, t10, t11, t12⟩ := HC.out w1 (HD.out w1 b1)
  have H3 := hid_of (H2.out w1 b1)
  have F1 := hid_of (And.intro f1 (And.intro k1 b1))
  obtain ⟨a1, c1, rfl, _⟩ := id f1
  clear f1 k1 b1 s0 s1 s2 s3 s4 s5 s6 s7 s8 s9 s10 s11 s12
  go_wp2_with fail
  refine H3.out.mono ?_
  rintro e w2 ⟨rfl, r2, ev2⟩
  have E2 := hid_of (And.intro r2 ev2)
  clear r2 ev2
  go_wp2_with fail
  go_ret2
  exact ⟨_, _, by first | rfl | simp, E2.out.1, F1.out.1.ev F1.out.2.1 E2.out.2, F1.out.2.1.ev E2.out.2, HE0.out _ ((HD.out _ F1.out.2.2).trans E2.out.2), HLn.out⟩
set_option maxHeartbeats 4000000 in
set_option maxRecDepth 100000 in
theorem step_setno {B b : Nat} {m : EL} {v : Value} {w : World} (h : RK B b m w) (f : FS w v m) (kp : Kp B w v) (hB : B ≤ w.heap.size) (hn : m.length < big) (x : OpD) (ok' : OpOk x) (hK : x.K = 0) (hm : ¬ May x.A) : Calls Tryz.prog 14 #[ptr b, v, .agg (opC x)] w (StE B b m w) := by
  have hnb : m.length < 9000000000000 := hn
  have hU : Srt m ∧ Uq m := by obtain ⟨mm, t, ml, hx⟩ := h; exact ⟨hx.srt, hx.uq⟩
  obtain ⟨K, nm, A, Bq, ⟨li, lp, ls, ln⟩, ⟨ui, up, us, un⟩, tn⟩ := x
  unfold opC
  dsimp only at ok' ⊢ hK hm
  subst hK
  obtain ⟨V, hV⟩ : ∃ V, V = w.alloc (.cells #[.int .i64 0, .string (mk nm), .int .i64 A, .int .i64 Bq, .int .i64 li, .bool lp, .int .i64 ls, .string (mk ln), .int .i64 ui, .bool up, .int .i64 us, .string (mk un), .bool tn] 41) := ⟨_, rfl⟩
  have bV : Below w.heap.size w V := by rw [hV]; exact bnew w _
  have hx0 : V.heap[w.heap.size]? = some (.cells #[.int .i64 0, .string (mk nm), .int .i64 A, .int .i64 Bq, .int .i64 li, .bool lp, .int .i64 ls, .string (mk ln), .int .i64 ui, .bool up, .int .i64 us, .string (mk un), .bool tn] 41 (0, 0)) := by rw [hV]; exact heap_alloc_new w _
  have HV := hid_of hV
  have HOk := hid_of ok'
  have HBV := hid_of bV
  have HSz : Hid (B ≤ V.heap.size) := hid_of (Nat.le_trans hB bV.size)
  have RV := hid_of (h.below bV)
  have FV := hid_of (And.intro (f.below bV) (kp.below bV))
  have HC : Hid (∀ W, Ev B V W → (fun W : World => W.cell? ⟨w.heap.size, 0, none⟩ = some (.int .i64 0) ∧ W.cell? ⟨w.heap.size, 1, none⟩ = some (.string (mk nm)) ∧ W.cell? ⟨w.heap.size, 2, none⟩ = some (.int .i64 A) ∧ W.cell? ⟨w.heap.size, 3, none⟩ = some (.int .i64 Bq) ∧ W.cell? ⟨w.heap.size, 4, none⟩ = some (.int .i64 li) ∧ W.cell? ⟨w.heap.size, 5, none⟩ = some (.bool lp) ∧ W.cell? ⟨w.heap.size, 6, none⟩ = some (.int .i64 ls) ∧ W.cell? ⟨w.heap.size, 7, none⟩ = some (.string (mk ln)) ∧ W.cell? ⟨w.heap.size, 8, none⟩ = some (.int .i64 ui) ∧ W.cell? ⟨w.heap.size, 9, none⟩ = some (.bool up) ∧ W.cell? ⟨w.heap.size, 10, none⟩ = some (.int .i64 us) ∧ W.cell? ⟨w.heap.size, 11, none⟩ = some (.string (mk un)) ∧ W.cell? ⟨w.heap.size, 12, none⟩ = some (.bool tn)) W) := hid_of fun W e => by
    have y := cells_ev hx0 e
    exact ⟨Lib.cell_of_heap y 0, Lib.cell_of_heap y 1, Lib.cell_of_heap y 2, Lib.cell_of_heap y 3, Lib.cell_of_heap y 4, Lib.cell_of_heap y 5, Lib.cell_of_heap y 6, Lib.cell_of_heap y 7, Lib.cell_of_heap y 8, Lib.cell_of_heap y 9, Lib.cell_of_heap y 10, Lib.cell_of_heap y 11, Lib.cell_of_heap y 12⟩
  have cV := HC.out V (Ev.refl _ _)
  have HD : Hid (∀ W, Below V.heap.size V W → Ev B V W) := hid_of fun W k => Ev.of_below k
  have HE0 : Hid (∀ W, Ev B V W → Ev B w W) := hid_of fun W k => (Ev.of_below bV).trans k
  obtain ⟨a, c, rfl, _⟩ := id f
  clear h f kp hV bV hx0 ok'
  have H1 := hid_of (rset_no _ m nm A V FV.out.1 hm)
  have H2 := hid_of (set_no (B := B) (b := b) nm A V hm)
  obtain ⟨s0, s1, s2, s3, s4, s5, s6, s7, s8, s9, s10, s11, s12⟩ := cV
  go_enter Tryz.func14, Tryz.ntmps14
  go_wp2_with fail
  rw [← HV.out]
  refine H1.out.mono ?_
  rintro e w1 ⟨rfl, hw1⟩
  rw [hw1]
  clear hw1
  go_wp2_with fail
  refine H2.out.mono ?_
  rintro e w2 ⟨rfl, hw2⟩
  rw [hw2]
  clear hw2
  go_wp2_with fail
  go_ret2
  exact ⟨_, m, by first | rfl | simp, RV.out, FV.out.1, FV.out.2, HE0.out _ (Ev.refl _ _), Nat.le_succ _⟩
set_option maxHeartbeats 4000000 in
set_option maxRecDepth 100000 in
theorem step_drop {B b : Nat} {m : EL} {v : Value} {w : World} (h : RK B b m w) (f : FS w v m) (kp : Kp B w v) (hB : B ≤ w.heap.size) (hn : m.length < big) (x : OpD) (ok' : OpOk x) (hK : x.K = 2) : Calls Tryz.prog 14 #[ptr b, v, .agg (opC x)] w (StE B b m w) := by
  have hnb : m.length < 9000000000000 := hn
  have hU : Srt m ∧ Uq m := by obtain ⟨mm, t, ml, hx⟩ := h; exact ⟨hx.srt, hx.uq⟩
  obtain ⟨K, nm, A, Bq, ⟨li, lp, ls, ln⟩, ⟨ui, up, us, un⟩, tn⟩ := x
  unfold opC
  dsimp only at ok' ⊢ hK
  subst hK
  obtain ⟨V, hV⟩ : ∃ V, V = w.alloc (.cells #[.int .i64 2, .string (mk nm), .int .i64 A, .int .i64 Bq, .int .i64 li, .bool lp, .int .i64 ls, .string (mk ln), .int .i64 ui, .bool up, .int .i64 us, .string (mk un), .bool tn] 41) := ⟨_, rfl⟩
  have bV : Below w.heap.size w V := by rw [hV]; exact bnew w _
  have hx0 : V.heap[w.heap.size]? = some (.cells #[.int .i64 2, .string (mk nm), .int .i64 A, .int .i64 Bq, .int .i64 li, .bool lp, .int .i64 ls, .string (mk ln), .int .i64 ui, .bool up, .int .i64 us, .string (mk un), .bool tn] 41 (0, 0)) := by rw [hV]; exact heap_alloc_new w _
  have HV := hid_of hV
  have HOk := hid_of ok'
  have HBV := hid_of bV
  have HSz : Hid (B ≤ V.heap.size) := hid_of (Nat.le_trans hB bV.size)
  have RV := hid_of (h.below bV)
  have FV := hid_of (And.intro (f.below bV) (kp.below bV))
  have HC : Hid (∀ W, Ev B V W → (fun W : World => W.cell? ⟨w.heap.size, 0, none⟩ = some (.int .i64 2) ∧ W.cell? ⟨w.heap.size, 1, none⟩ = some (.string (mk nm)) ∧ W.cell? ⟨w.heap.size, 2, none⟩ = some (.int .i64 A) ∧ W.cell? ⟨w.heap.size, 3, none⟩ = some (.int .i64 Bq) ∧ W.cell? ⟨w.heap.size, 4, none⟩ = some (.int .i64 li) ∧ W.cell? ⟨w.heap.size, 5, none⟩ = some (.bool lp) ∧ W.cell? ⟨w.heap.size, 6, none⟩ = some (.int .i64 ls) ∧ W.cell? ⟨w.heap.size, 7, none⟩ = some (.string (mk ln)) ∧ W.cell? ⟨w.heap.size, 8, none⟩ = some (.int .i64 ui) ∧ W.cell? ⟨w.heap.size, 9, none⟩ = some (.bool up) ∧ W.cell? ⟨w.heap.size, 10, none⟩ = some (.int .i64 us) ∧ W.cell? ⟨w.heap.size, 11, none⟩ = some (.string (mk un)) ∧ W.cell? ⟨w.heap.size, 12, none⟩ = some (.bool tn)) W) := hid_of fun W e => by
    have y := cells_ev hx0 e
    exact ⟨Lib.cell_of_heap y 0, Lib.cell_of_heap y 1, Lib.cell_of_heap y 2, Lib.cell_of_heap y 3, Lib.cell_of_heap y 4, Lib.cell_of_heap y 5, Lib.cell_of_heap y 6, Lib.cell_of_heap y 7, Lib.cell_of_heap y 8, Lib.cell_of_heap y 9, Lib.cell_of_heap y 10, Lib.cell_of_heap y 11, Lib.cell_of_heap y 12⟩
  have cV := HC.out V (Ev.refl _ _)
  have HD : Hid (∀ W, Below V.heap.size V W → Ev B V W) := hid_of fun W k => Ev.of_below k
  have HE0 : Hid (∀ W, Ev B V W → Ev B w W) := hid_of fun W k => (Ev.of_below bV).trans k
  obtain ⟨a, c, rfl, _⟩ := id f
  clear h f kp hV bV hx0 ok'
  have H1 := hid_of (rdrop_call B _ m nm V FV.out.1 FV.out.2 hU.2 (Nat.le_of_lt hn))
  have H2 := hid_of fun (W : World) (k : Below V.heap.size V W) => drop_call (RV.out.below k) nm HOk.out.nm (Nat.le_of_lt hn)
  have HLn : Hid ((wout m nm).length ≤ m.length + 1) := hid_of (Nat.le_succ_of_le (List.length_filter_le _ _))
  generalize ok m nm = O at *
  have hOO : (O == O) = true := by simp
  obtain ⟨s0, s1, s2, s3, s4, s5, s6, s7, s8, s9, s10, s11, s12⟩ := cV
  go_enter Tryz.func14, Tryz.ntmps14
  go_wp2_with fail
  rw [← HV.out]
  refine H1.out.mono ?_
  rintro e w1 ⟨v1, rfl, f1, k1, b1⟩
  obtain ⟨t0, t1, t2, t3, t4, t5, t6, t7, t8, t9, t10, t11, t12⟩ := HC.out w1 (HD.out w1 b1)
  have H3 := hid_of (H2.out w1 b1)
  have F1 := hid_of (And.intro f1 (And.intro k1 b1))
  obtain ⟨a1, c1, rfl, _⟩ := id f1
  clear f1 k1 b1 s0 s1 s2 s3 s4 s5 s6 s7 s8 s9 s10 s11 s12
  go_wp2_with fail
  refine H3.out.mono ?_
  rintro e w2 ⟨rfl, r2, ev2⟩
  have E2 := hid_of (And.intro r2 ev2)
  clear r2 ev2
  go_wp2_with fail
  go_ret2
  exact ⟨_, _, by first | rfl | simp, E2.out.1, F1.out.1.ev F1.out.2.1 E2.out.2, F1.out.2.1.ev E2.out.2, HE0.out _ ((HD.out _ F1.out.2.2).trans E2.out.2), HLn.out⟩
end Go.Proofs.YtighoelipihifaaGreatDoor.PlaysF
