/- The law's step: by names. -/
import Derived.Test.YtighoelipihifaaGreatDoorPlaysE
import Derived.Test.YtighoelipihifaaGreatDoorPlaysB
import Derived.Test.YtighoelipihifaaGreatDoorNames
import Derived.Test.YtighoelipihifaaGreatDoorSure
import Derived.Deep.RegionHeld3
import Derived.Test.YtighoelipihifaaGreatDoorPlaysF
import Derived.Test.YtighoelipihifaaGreatDoorPlaysD2
import Derived.Test.YtighoelipihifaaGreatDoorPlaysH
namespace Go.Proofs.YtighoelipihifaaGreatDoor.PlaysH3
open Go.RowKit Go.Maps Go.Sort
open Go.Proofs.YtighoelipihifaaGreatDoor.MapMath
open Go.Proofs.YtighoelipihifaaGreatDoor.RankMath
open Go.Proofs.YtighoelipihifaaGreatDoor.RankMath2
open Go.Proofs.YtighoelipihifaaGreatDoor.RankMath3
open Go.Proofs.YtighoelipihifaaGreatDoor.Base
open Go.Proofs.YtighoelipihifaaGreatDoor.Cmp
open Go.Proofs.YtighoelipihifaaGreatDoor.Rank1
open Go.Proofs.YtighoelipihifaaGreatDoor.Run
open Go.Proofs.YtighoelipihifaaGreatDoor.Seek
open Go.Proofs.YtighoelipihifaaGreatDoor.Bound
open Go.Proofs.YtighoelipihifaaGreatDoor.Scores
open Go.Proofs.YtighoelipihifaaGreatDoor.Names
open Go.Proofs.YtighoelipihifaaGreatDoor.Ref1
open Go.Proofs.YtighoelipihifaaGreatDoor.Sure
open Go.Proofs.YtighoelipihifaaGreatDoor.PlaysA
open Go.Proofs.YtighoelipihifaaGreatDoor.PlaysB
open Go.Proofs.YtighoelipihifaaGreatDoor.PlaysC
open Go.Proofs.YtighoelipihifaaGreatDoor.PlaysE
open Go.Proofs.YtighoelipihifaaGreatDoor.PlaysF
open Go.Proofs.YtighoelipihifaaGreatDoor.PlaysH
set_option linter.unusedVariables false
set_option linter.unusedSimpArgs false
set_option maxHeartbeats 4000000 in
set_option maxRecDepth 100000 in
theorem step_names {B b : Nat} {m : EL} {v : Value} {w : World} (h : RK B b m w) (f : FS w v m) (kp : Kp B w v) (hB : B ≤ w.heap.size) (hn : m.length < big) (x : OpD) (ok' : OpOk x) (hK : x.K = 6) : Calls Tryz.prog 14 #[ptr b, v, .agg (opC x)] w (StE B b m w) := by
  have hnb : m.length < 9000000000000 := hn
  have hU : Srt m ∧ Uq m := by obtain ⟨mm, t, ml, hx⟩ := h; exact ⟨hx.srt, hx.uq⟩
  obtain ⟨K, nm, A, Bq, ⟨li, lp, ls, ln⟩, ⟨ui, up, us, un⟩, tn⟩ := x
  unfold opC
  dsimp only at ok' ⊢ hK
  subst hK
  obtain ⟨V, hV⟩ : ∃ V, V = w.alloc (.cells #[.int .i64 6, .string (mk nm), .int .i64 A, .int .i64 Bq, .int .i64 li, .bool lp, .int .i64 ls, .string (mk ln), .int .i64 ui, .bool up, .int .i64 us, .string (mk un), .bool tn] 41) := ⟨_, rfl⟩
  have bV : Below w.heap.size w V := by rw [hV]; exact bnew w _
  have hx0 : V.heap[w.heap.size]? = some (.cells #[.int .i64 6, .string (mk nm), .int .i64 A, .int .i64 Bq, .int .i64 li, .bool lp, .int .i64 ls, .string (mk ln), .int .i64 ui, .bool up, .int .i64 us, .string (mk un), .bool tn] 41 (0, 0)) := by rw [hV]; exact heap_alloc_new w _
  have HV := hid_of hV
  have HOk := hid_of ok'
  have HBV := hid_of bV
  have HSz : Hid (B ≤ V.heap.size) := hid_of (Nat.le_trans hB bV.size)
  have RV := hid_of (h.below bV)
  have FV := hid_of (And.intro (f.below bV) (kp.below bV))
  have HC : Hid (∀ W, Ev B V W → (fun W : World => W.cell? ⟨w.heap.size, 0, none⟩ = some (.int .i64 6) ∧ W.cell? ⟨w.heap.size, 1, none⟩ = some (.string (mk nm)) ∧ W.cell? ⟨w.heap.size, 2, none⟩ = some (.int .i64 A) ∧ W.cell? ⟨w.heap.size, 3, none⟩ = some (.int .i64 Bq) ∧ W.cell? ⟨w.heap.size, 4, none⟩ = some (.int .i64 li) ∧ W.cell? ⟨w.heap.size, 5, none⟩ = some (.bool lp) ∧ W.cell? ⟨w.heap.size, 6, none⟩ = some (.int .i64 ls) ∧ W.cell? ⟨w.heap.size, 7, none⟩ = some (.string (mk ln)) ∧ W.cell? ⟨w.heap.size, 8, none⟩ = some (.int .i64 ui) ∧ W.cell? ⟨w.heap.size, 9, none⟩ = some (.bool up) ∧ W.cell? ⟨w.heap.size, 10, none⟩ = some (.int .i64 us) ∧ W.cell? ⟨w.heap.size, 11, none⟩ = some (.string (mk un)) ∧ W.cell? ⟨w.heap.size, 12, none⟩ = some (.bool tn)) W) := hid_of fun W e => by
    have y := cells_ev hx0 e
    exact ⟨Lib.cell_of_heap y 0, Lib.cell_of_heap y 1, Lib.cell_of_heap y 2, Lib.cell_of_heap y 3, Lib.cell_of_heap y 4, Lib.cell_of_heap y 5, Lib.cell_of_heap y 6, Lib.cell_of_heap y 7, Lib.cell_of_heap y 8, Lib.cell_of_heap y 9, Lib.cell_of_heap y 10, Lib.cell_of_heap y 11, Lib.cell_of_heap y 12⟩
  have cV := HC.out V (Ev.refl _ _)
  have HD : Hid (∀ W, Below V.heap.size V W → Ev B V W) := hid_of fun W k => Ev.of_below k
  have HE0 : Hid (∀ W, Ev B V W → Ev B w W) := hid_of fun W k => (Ev.of_below bV).trans k
  obtain ⟨a, c, rfl, _⟩ := id f
  clear h f kp hV bV hx0 ok'
  have H1 := hid_of fun (W : World) (k : Below V.heap.size V W) => names_call (RV.out.below k) ⟨li, lp, ls, ln⟩ ⟨ui, up, us, un⟩ tn A Bq (Nat.le_of_lt hn)
  have H2 := hid_of fun (W : World) (k : Below V.heap.size V W) => PlaysD2.rnames_call B _ m ⟨li, lp, ls, ln⟩ ⟨ui, up, us, un⟩ tn A Bq W (FV.out.1.below k) (Nat.le_of_lt hn) HOk.out.lo HOk.out.hi
  have HLl : Hid ((nmS m ⟨li, lp, ls, ln⟩ ⟨ui, up, us, un⟩ tn A Bq).length ≤ big) := hid_of (Nat.le_trans (nmS_len m ⟨li, lp, ls, ln⟩ ⟨ui, up, us, un⟩ tn A Bq) (Nat.le_of_lt hn))
  have H3 := hid_of fun (W : World) (va vb : Value) (fa : FS W va (nmS m ⟨li, lp, ls, ln⟩ ⟨ui, up, us, un⟩ tn A Bq)) (fb : FS W vb (nmS m ⟨li, lp, ls, ln⟩ ⟨ui, up, us, un⟩ tn A Bq)) => same_call va vb (nmS m ⟨li, lp, ls, ln⟩ ⟨ui, up, us, un⟩ tn A Bq) (nmS m ⟨li, lp, ls, ln⟩ ⟨ui, up, us, un⟩ tn A Bq) W fa fb HLl.out HLl.out
  rw [decide_eq_true rfl] at H3
  have hs0 : (fun W : World => W.cell? ⟨w.heap.size, 0, none⟩ = some (.int .i64 6) ∧ W.cell? ⟨w.heap.size, 1, none⟩ = some (.string (mk nm)) ∧ W.cell? ⟨w.heap.size, 2, none⟩ = some (.int .i64 A) ∧ W.cell? ⟨w.heap.size, 3, none⟩ = some (.int .i64 Bq) ∧ W.cell? ⟨w.heap.size, 4, none⟩ = some (.int .i64 li) ∧ W.cell? ⟨w.heap.size, 5, none⟩ = some (.bool lp) ∧ W.cell? ⟨w.heap.size, 6, none⟩ = some (.int .i64 ls) ∧ W.cell? ⟨w.heap.size, 7, none⟩ = some (.string (mk ln)) ∧ W.cell? ⟨w.heap.size, 8, none⟩ = some (.int .i64 ui) ∧ W.cell? ⟨w.heap.size, 9, none⟩ = some (.bool up) ∧ W.cell? ⟨w.heap.size, 10, none⟩ = some (.int .i64 us) ∧ W.cell? ⟨w.heap.size, 11, none⟩ = some (.string (mk un)) ∧ W.cell? ⟨w.heap.size, 12, none⟩ = some (.bool tn)) V.drew := HC.out _ (HD.out _ (Below.refl _ V).drew)
  generalize nmS m ⟨li, lp, ls, ln⟩ ⟨ui, up, us, un⟩ tn A Bq = L at *
  unfold ptr bV at H1
  unfold bW at H2
  try dsimp only at H1 H2
  obtain ⟨s0, s1, s2, s3, s4, s5, s6, s7, s8, s9, s10, s11, s12⟩ := cV
  go_enter Tryz.func14, Tryz.ntmps14
  go_wp2_with fail
  rw [← HV.out]
  go_region_held3 (fun W : World => W.cell? ⟨w.heap.size, 0, none⟩ = some (.int .i64 6) ∧ W.cell? ⟨w.heap.size, 1, none⟩ = some (.string (mk nm)) ∧ W.cell? ⟨w.heap.size, 2, none⟩ = some (.int .i64 A) ∧ W.cell? ⟨w.heap.size, 3, none⟩ = some (.int .i64 Bq) ∧ W.cell? ⟨w.heap.size, 4, none⟩ = some (.int .i64 li) ∧ W.cell? ⟨w.heap.size, 5, none⟩ = some (.bool lp) ∧ W.cell? ⟨w.heap.size, 6, none⟩ = some (.int .i64 ls) ∧ W.cell? ⟨w.heap.size, 7, none⟩ = some (.string (mk ln)) ∧ W.cell? ⟨w.heap.size, 8, none⟩ = some (.int .i64 ui) ∧ W.cell? ⟨w.heap.size, 9, none⟩ = some (.bool up) ∧ W.cell? ⟨w.heap.size, 10, none⟩ = some (.int .i64 us) ∧ W.cell? ⟨w.heap.size, 11, none⟩ = some (.string (mk un)) ∧ W.cell? ⟨w.heap.size, 12, none⟩ = some (.bool tn)) (first | exact hs0 | exact hs1 | exact hs2 | exact hs3) (first
    | (go_at_call 30; refine (H1.out _ (Below.refl _ V).drew).mono ?_; rintro e w1 ⟨v1, rfl, o1, b1⟩; obtain ⟨a1, c1, hv1, _⟩ := id (fs_row o1); subst hv1; have hs1 := HC.out w1 (HD.out w1 ((Below.refl _ V).drew.trans b1)))
    | (go_at_call 40; refine (H2.out _ ((Below.refl _ V).drew.trans b1)).mono ?_; rintro e w2 ⟨v2, rfl, f2, k2, b2⟩; obtain ⟨a2, c2, hv2, _⟩ := id f2; subst hv2; have B2 : Below V.heap.size V w2 := Base.bel ((Below.refl _ V).drew.trans b1) b2 (Nat.le_refl _); have hs2 := HC.out w2 (HD.out w2 B2))
    | (go_at_call 10; refine (H3.out w2 _ _ ((fs_row o1).below b2) f2).mono ?_; rintro e w3 ⟨rfl, b3⟩; have B3 : Below V.heap.size V w3 := Base.bel B2 b3 (Nat.le_refl _); have hs3 := HC.out w3 (HD.out w3 B3)))
  go_wp2_with fail
  go_ret2
  exact ⟨_, m, by first | rfl | simp, RV.out.below B3, FV.out.1.below B3, FV.out.2.below B3, HE0.out _ (HD.out _ B3), Nat.le_succ _⟩
end Go.Proofs.YtighoelipihifaaGreatDoor.PlaysH3
