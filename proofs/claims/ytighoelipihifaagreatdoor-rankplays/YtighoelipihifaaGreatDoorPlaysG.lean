/- The law's step: places, what is popped, and the score. -/
import Derived.Test.YtighoelipihifaaGreatDoorPlaysE
import Derived.Test.YtighoelipihifaaGreatDoorPlaysB
import Derived.Test.YtighoelipihifaaGreatDoorNames
import Derived.Test.YtighoelipihifaaGreatDoorSure
import Derived.Deep.RegionHeld3
import Derived.Test.YtighoelipihifaaGreatDoorPlaysF
namespace Go.Proofs.YtighoelipihifaaGreatDoor.PlaysG
open Go.RowKit Go.Maps Go.Sort
open Go.Proofs.YtighoelipihifaaGreatDoor.MapMath
open Go.Proofs.YtighoelipihifaaGreatDoor.RankMath
open Go.Proofs.YtighoelipihifaaGreatDoor.RankMath2
open Go.Proofs.YtighoelipihifaaGreatDoor.RankMath3
open Go.Proofs.YtighoelipihifaaGreatDoor.Base
open Go.Proofs.YtighoelipihifaaGreatDoor.Cmp
open Go.Proofs.YtighoelipihifaaGreatDoor.Rank1
open Go.Proofs.YtighoelipihifaaGreatDoor.Run
open Go.Proofs.YtighoelipihifaaGreatDoor.Seek
open Go.Proofs.YtighoelipihifaaGreatDoor.Bound
open Go.Proofs.YtighoelipihifaaGreatDoor.Scores
open Go.Proofs.YtighoelipihifaaGreatDoor.Names
open Go.Proofs.YtighoelipihifaaGreatDoor.Ref1
open Go.Proofs.YtighoelipihifaaGreatDoor.Sure
open Go.Proofs.YtighoelipihifaaGreatDoor.PlaysA
open Go.Proofs.YtighoelipihifaaGreatDoor.PlaysB
open Go.Proofs.YtighoelipihifaaGreatDoor.PlaysC
open Go.Proofs.YtighoelipihifaaGreatDoor.PlaysE
open Go.Proofs.YtighoelipihifaaGreatDoor.PlaysF
set_option linter.unusedVariables false
set_option linter.unusedSimpArgs false
theorem ok_way (m : EL) (r : Bool) (k : Bs) : ok (way m r) k = ok m k := by
  cases h : ok m k with
  | true =>
    obtain ⟨p, hp, e⟩ := ok_iff.1 h
    exact ok_iff.2 ⟨p, (way_perm m r).mem_iff.2 hp, e⟩
  | false =>
    cases h2 : ok (way m r) k with
    | false => rfl
    | true =>
      obtain ⟨p, hp, e⟩ := ok_iff.1 h2
      rw [ok_iff.2 ⟨p, (way_perm m r).mem_iff.1 hp, e⟩] at h
      cases h
theorem place_eq {m : EL} (u : Uq m) (k : Bs) (r : Bool) : max 0 (findI (way m r) k) = placeS m k r ∧ decide (0 ≤ findI (way m r) k) = ok m k := by
  unfold findI placeS
  rw [ok_way]
  cases h : ok m k with
  | false => exact ⟨rfl, rfl⟩
  | true =>
    rw [if_pos rfl, if_pos rfl]
    refine ⟨?_, decide_eq_true (Int.natCast_nonneg _)⟩
    cases r with
    | false => rw [if_neg (by decide)]; show max 0 (plc m k : Int) = _; omega
    | true =>
      have := plc_rev u h
      rw [if_pos rfl]
      show max 0 (plc m.reverse k : Int) = _
      omega
set_option maxHeartbeats 4000000 in
set_option maxRecDepth 100000 in
theorem step_place {B b : Nat} {m : EL} {v : Value} {w : World} (h : RK B b m w) (f : FS w v m) (kp : Kp B w v) (hB : B ≤ w.heap.size) (hn : m.length < big) (x : OpD) (ok' : OpOk x) (hK : x.K = 3) : Calls Tryz.prog 14 #[ptr b, v, .agg (opC x)] w (StE B b m w) := by
  have hnb : m.length < 9000000000000 := hn
  have hU : Srt m ∧ Uq m := by obtain ⟨mm, t, ml, hx⟩ := h; exact ⟨hx.srt, hx.uq⟩
  obtain ⟨K, nm, A, Bq, ⟨li, lp, ls, ln⟩, ⟨ui, up, us, un⟩, tn⟩ := x
  unfold opC
  dsimp only at ok' ⊢ hK
  subst hK
  obtain ⟨V, hV⟩ : ∃ V, V = w.alloc (.cells #[.int .i64 3, .string (mk nm), .int .i64 A, .int .i64 Bq, .int .i64 li, .bool lp, .int .i64 ls, .string (mk ln), .int .i64 ui, .bool up, .int .i64 us, .string (mk un), .bool tn] 41) := ⟨_, rfl⟩
  have bV : Below w.heap.size w V := by rw [hV]; exact bnew w _
  have hx0 : V.heap[w.heap.size]? = some (.cells #[.int .i64 3, .string (mk nm), .int .i64 A, .int .i64 Bq, .int .i64 li, .bool lp, .int .i64 ls, .string (mk ln), .int .i64 ui, .bool up, .int .i64 us, .string (mk un), .bool tn] 41 (0, 0)) := by rw [hV]; exact heap_alloc_new w _
  have HV := hid_of hV
  have HOk := hid_of ok'
  have HBV := hid_of bV
  have HSz : Hid (B ≤ V.heap.size) := hid_of (Nat.le_trans hB bV.size)
  have RV := hid_of (h.below bV)
  have FV := hid_of (And.intro (f.below bV) (kp.below bV))
  have HC : Hid (∀ W, Ev B V W → (fun W : World => W.cell? ⟨w.heap.size, 0, none⟩ = some (.int .i64 3) ∧ W.cell? ⟨w.heap.size, 1, none⟩ = some (.string (mk nm)) ∧ W.cell? ⟨w.heap.size, 2, none⟩ = some (.int .i64 A) ∧ W.cell? ⟨w.heap.size, 3, none⟩ = some (.int .i64 Bq) ∧ W.cell? ⟨w.heap.size, 4, none⟩ = some (.int .i64 li) ∧ W.cell? ⟨w.heap.size, 5, none⟩ = some (.bool lp) ∧ W.cell? ⟨w.heap.size, 6, none⟩ = some (.int .i64 ls) ∧ W.cell? ⟨w.heap.size, 7, none⟩ = some (.string (mk ln)) ∧ W.cell? ⟨w.heap.size, 8, none⟩ = some (.int .i64 ui) ∧ W.cell? ⟨w.heap.size, 9, none⟩ = some (.bool up) ∧ W.cell? ⟨w.heap.size, 10, none⟩ = some (.int .i64 us) ∧ W.cell? ⟨w.heap.size, 11, none⟩ = some (.string (mk un)) ∧ W.cell? ⟨w.heap.size, 12, none⟩ = some (.bool tn)) W) := hid_of fun W e => by
    have y := cells_ev hx0 e
    exact ⟨Lib.cell_of_heap y 0, Lib.cell_of_heap y 1, Lib.cell_of_heap y 2, Lib.cell_of_heap y 3, Lib.cell_of_heap y 4, Lib.cell_of_heap y 5, Lib.cell_of_heap y 6, Lib.cell_of_heap y 7, Lib.cell_of_heap y 8, Lib.cell_of_heap y 9, Lib.cell_of_heap y 10, Lib.cell_of_heap y 11, Lib.cell_of_heap y 12⟩
  have cV := HC.out V (Ev.refl _ _)
  have HD : Hid (∀ W, Below V.heap.size V W → Ev B V W) := hid_of fun W k => Ev.of_below k
  have HE0 : Hid (∀ W, Ev B V W → Ev B w W) := hid_of fun W k => (Ev.of_below bV).trans k
  obtain ⟨a, c, rfl, _⟩ := id f
  clear h f kp hV bV hx0 ok'
  have H1 := hid_of (place_call RV.out nm tn HOk.out.nm (Nat.le_of_lt hn))
  have H2 := hid_of fun (W : World) (k : Below V.heap.size V W) => rplace_call _ m nm tn W (FV.out.1.below k) (Nat.le_of_lt hn)
  rw [(place_eq hU.2 nm tn).1, (place_eq hU.2 nm tn).2] at H2
  generalize ok m nm = O at *
  generalize placeS m nm tn = P at *
  have hOO : (O == O) = true := by simp
  obtain ⟨s0, s1, s2, s3, s4, s5, s6, s7, s8, s9, s10, s11, s12⟩ := cV
  go_enter Tryz.func14, Tryz.ntmps14
  go_wp2_with fail
  rw [← HV.out]
  refine H1.out.mono ?_
  rintro e w1 ⟨rfl, b1⟩
  obtain ⟨t0, t1, t2, t3, t4, t5, t6, t7, t8, t9, t10, t11, t12⟩ := HC.out w1 (HD.out w1 b1)
  have H3 := hid_of (H2.out w1 b1)
  have B1 := hid_of b1
  clear b1 s0 s1 s2 s3 s4 s5 s6 s7 s8 s9 s10 s11 s12
  go_wp2_with fail
  refine H3.out.mono ?_
  rintro e w2 ⟨rfl, b2⟩
  have B2 := hid_of (Base.bel B1.out b2 (Nat.le_refl _))
  clear b2
  go_wp2_with fail
  go_ret2
  exact ⟨_, m, by first | rfl | simp, RV.out.below B2.out, FV.out.1.below B2.out, FV.out.2.below B2.out, HE0.out _ (HD.out _ B2.out), Nat.le_succ _⟩
set_option maxHeartbeats 4000000 in
set_option maxRecDepth 100000 in
theorem step_pop {B b : Nat} {m : EL} {v : Value} {w : World} (h : RK B b m w) (f : FS w v m) (kp : Kp B w v) (hB : B ≤ w.heap.size) (hn : m.length < big) (x : OpD) (ok' : OpOk x) (hK : x.K = 7) : Calls Tryz.prog 14 #[ptr b, v, .agg (opC x)] w (StE B b m w) := by
  have hnb : m.length < 9000000000000 := hn
  have hU : Srt m ∧ Uq m := by obtain ⟨mm, t, ml, hx⟩ := h; exact ⟨hx.srt, hx.uq⟩
  obtain ⟨K, nm, A, Bq, ⟨li, lp, ls, ln⟩, ⟨ui, up, us, un⟩, tn⟩ := x
  unfold opC
  dsimp only at ok' ⊢ hK
  subst hK
  obtain ⟨V, hV⟩ : ∃ V, V = w.alloc (.cells #[.int .i64 7, .string (mk nm), .int .i64 A, .int .i64 Bq, .int .i64 li, .bool lp, .int .i64 ls, .string (mk ln), .int .i64 ui, .bool up, .int .i64 us, .string (mk un), .bool tn] 41) := ⟨_, rfl⟩
  have bV : Below w.heap.size w V := by rw [hV]; exact bnew w _
  have hx0 : V.heap[w.heap.size]? = some (.cells #[.int .i64 7, .string (mk nm), .int .i64 A, .int .i64 Bq, .int .i64 li, .bool lp, .int .i64 ls, .string (mk ln), .int .i64 ui, .bool up, .int .i64 us, .string (mk un), .bool tn] 41 (0, 0)) := by rw [hV]; exact heap_alloc_new w _
  have HV := hid_of hV
  have HOk := hid_of ok'
  have HBV := hid_of bV
  have HSz : Hid (B ≤ V.heap.size) := hid_of (Nat.le_trans hB bV.size)
  have RV := hid_of (h.below bV)
  have FV := hid_of (And.intro (f.below bV) (kp.below bV))
  have HC : Hid (∀ W, Ev B V W → (fun W : World => W.cell? ⟨w.heap.size, 0, none⟩ = some (.int .i64 7) ∧ W.cell? ⟨w.heap.size, 1, none⟩ = some (.string (mk nm)) ∧ W.cell? ⟨w.heap.size, 2, none⟩ = some (.int .i64 A) ∧ W.cell? ⟨w.heap.size, 3, none⟩ = some (.int .i64 Bq) ∧ W.cell? ⟨w.heap.size, 4, none⟩ = some (.int .i64 li) ∧ W.cell? ⟨w.heap.size, 5, none⟩ = some (.bool lp) ∧ W.cell? ⟨w.heap.size, 6, none⟩ = some (.int .i64 ls) ∧ W.cell? ⟨w.heap.size, 7, none⟩ = some (.string (mk ln)) ∧ W.cell? ⟨w.heap.size, 8, none⟩ = some (.int .i64 ui) ∧ W.cell? ⟨w.heap.size, 9, none⟩ = some (.bool up) ∧ W.cell? ⟨w.heap.size, 10, none⟩ = some (.int .i64 us) ∧ W.cell? ⟨w.heap.size, 11, none⟩ = some (.string (mk un)) ∧ W.cell? ⟨w.heap.size, 12, none⟩ = some (.bool tn)) W) := hid_of fun W e => by
    have y := cells_ev hx0 e
    exact ⟨Lib.cell_of_heap y 0, Lib.cell_of_heap y 1, Lib.cell_of_heap y 2, Lib.cell_of_heap y 3, Lib.cell_of_heap y 4, Lib.cell_of_heap y 5, Lib.cell_of_heap y 6, Lib.cell_of_heap y 7, Lib.cell_of_heap y 8, Lib.cell_of_heap y 9, Lib.cell_of_heap y 10, Lib.cell_of_heap y 11, Lib.cell_of_heap y 12⟩
  have cV := HC.out V (Ev.refl _ _)
  have HD : Hid (∀ W, Below V.heap.size V W → Ev B V W) := hid_of fun W k => Ev.of_below k
  have HE0 : Hid (∀ W, Ev B V W → Ev B w W) := hid_of fun W k => (Ev.of_below bV).trans k
  obtain ⟨a, c, rfl, _⟩ := id f
  clear h f kp hV bV hx0 ok'
  have H1 := hid_of (rpop_call B _ m A tn V FV.out.1 FV.out.2 (Nat.le_of_lt hn))
  have H2 := hid_of fun (W : World) (k : Below V.heap.size V W) => pop_call (RV.out.below k) A tn (Nat.le_of_lt hn) (Nat.le_trans HSz.out k.size)
  have HLl : Hid ((popS m (clampS A m.length) tn).length ≤ big) := hid_of (Nat.le_trans (by unfold popS runS; rw [List.length_take, List.length_drop, way_len]; omega) (Nat.le_of_lt hn))
  have HLn : Hid ((leftS m (clampS A m.length) tn).length ≤ m.length + 1) := hid_of (by unfold leftS; split <;> simp <;> omega)
  have H3 := hid_of fun (W : World) (va vb : Value) (fa : FS W va (popS m (clampS A m.length) tn)) (fb : FS W vb (popS m (clampS A m.length) tn)) => same_call va vb _ _ W fa fb HLl.out HLl.out
  rw [decide_eq_true rfl] at H3
  generalize popS m (clampS A m.length) tn = L at *
  generalize leftS m (clampS A m.length) tn = Lf at *
  obtain ⟨s0, s1, s2, s3, s4, s5, s6, s7, s8, s9, s10, s11, s12⟩ := cV
  go_enter Tryz.func14, Tryz.ntmps14
  go_wp2_with fail
  rw [← HV.out]
  refine H1.out.mono ?_
  rintro e w1 ⟨v1, v2, rfl, f1, f2, k2, kp1, b1⟩
  obtain ⟨t0, t1, t2, t3, t4, t5, t6, t7, t8, t9, t10, t11, t12⟩ := HC.out w1 (HD.out w1 b1)
  have H4 := hid_of (H2.out w1 b1)
  have F1 := hid_of (And.intro f1 (And.intro f2 (And.intro k2 (And.intro kp1 b1))))
  obtain ⟨a1, c1, rfl, _⟩ := id f1
  obtain ⟨a2, c2, rfl, _⟩ := id f2
  clear f1 f2 k2 kp1 b1 s0 s1 s2 s3 s4 s5 s6 s7 s8 s9 s10 s11 s12
  go_wp2_with fail
  refine H4.out.mono ?_
  rintro e w2 ⟨v3, rfl, o3, r3, ev3⟩
  obtain ⟨a3, c3, hv3, _⟩ := id (fs_row o3)
  subst hv3
  have E3 := hid_of (And.intro r3 ev3)
  have H5 := hid_of (H3.out w2 _ _ (fs_row o3) (F1.out.1.ev F1.out.2.2.2.1 ev3))
  clear o3 r3 ev3
  go_wp2_with fail
  refine H5.out.mono ?_
  rintro e w4 ⟨rfl, b4⟩
  have B4 := hid_of b4
  clear b4
  go_wp2_with fail
  go_ret2
  exact ⟨_, _, by first | rfl | simp, E3.out.1.below B4.out, (F1.out.2.1.ev F1.out.2.2.1 E3.out.2).below B4.out, (F1.out.2.2.1.ev E3.out.2).below B4.out, HE0.out _ (((HD.out _ F1.out.2.2.2.2).trans E3.out.2).trans (Ev.of_below B4.out)), HLn.out⟩
set_option maxHeartbeats 4000000 in
set_option maxRecDepth 100000 in
theorem step_else_yes {B b : Nat} {m : EL} {v : Value} {w : World} (h : RK B b m w) (f : FS w v m) (kp : Kp B w v) (hB : B ≤ w.heap.size) (hn : m.length < big) (x : OpD) (ok' : OpOk x) (k0 : ¬ x.K = 0) (k2 : ¬ x.K = 2) (k3 : ¬ x.K = 3) (k4 : ¬ x.K = 4) (k5 : ¬ x.K = 5) (k6 : ¬ x.K = 6) (k7 : ¬ x.K = 7) (ho : ok m x.nm = true) : Calls Tryz.prog 14 #[ptr b, v, .agg (opC x)] w (StE B b m w) := by
  have hnb : m.length < 9000000000000 := hn
  have hU : Srt m ∧ Uq m := by obtain ⟨mm, t, ml, hx⟩ := h; exact ⟨hx.srt, hx.uq⟩
  obtain ⟨K, nm, A, Bq, ⟨li, lp, ls, ln⟩, ⟨ui, up, us, un⟩, tn⟩ := x
  unfold opC
  dsimp only at ok' ⊢ k0 k2 k3 k4 k5 k6 k7 ho
  obtain ⟨V, hV⟩ : ∃ V, V = w.alloc (.cells #[.int .i64 K, .string (mk nm), .int .i64 A, .int .i64 Bq, .int .i64 li, .bool lp, .int .i64 ls, .string (mk ln), .int .i64 ui, .bool up, .int .i64 us, .string (mk un), .bool tn] 41) := ⟨_, rfl⟩
  have bV : Below w.heap.size w V := by rw [hV]; exact bnew w _
  have hx0 : V.heap[w.heap.size]? = some (.cells #[.int .i64 K, .string (mk nm), .int .i64 A, .int .i64 Bq, .int .i64 li, .bool lp, .int .i64 ls, .string (mk ln), .int .i64 ui, .bool up, .int .i64 us, .string (mk un), .bool tn] 41 (0, 0)) := by rw [hV]; exact heap_alloc_new w _
  have HV := hid_of hV
  have HOk := hid_of ok'
  have HBV := hid_of bV
  have HSz : Hid (B ≤ V.heap.size) := hid_of (Nat.le_trans hB bV.size)
  have RV := hid_of (h.below bV)
  have FV := hid_of (And.intro (f.below bV) (kp.below bV))
  have HC : Hid (∀ W, Ev B V W → (fun W : World => W.cell? ⟨w.heap.size, 0, none⟩ = some (.int .i64 K) ∧ W.cell? ⟨w.heap.size, 1, none⟩ = some (.string (mk nm)) ∧ W.cell? ⟨w.heap.size, 2, none⟩ = some (.int .i64 A) ∧ W.cell? ⟨w.heap.size, 3, none⟩ = some (.int .i64 Bq) ∧ W.cell? ⟨w.heap.size, 4, none⟩ = some (.int .i64 li) ∧ W.cell? ⟨w.heap.size, 5, none⟩ = some (.bool lp) ∧ W.cell? ⟨w.heap.size, 6, none⟩ = some (.int .i64 ls) ∧ W.cell? ⟨w.heap.size, 7, none⟩ = some (.string (mk ln)) ∧ W.cell? ⟨w.heap.size, 8, none⟩ = some (.int .i64 ui) ∧ W.cell? ⟨w.heap.size, 9, none⟩ = some (.bool up) ∧ W.cell? ⟨w.heap.size, 10, none⟩ = some (.int .i64 us) ∧ W.cell? ⟨w.heap.size, 11, none⟩ = some (.string (mk un)) ∧ W.cell? ⟨w.heap.size, 12, none⟩ = some (.bool tn)) W) := hid_of fun W e => by
    have y := cells_ev hx0 e
    exact ⟨Lib.cell_of_heap y 0, Lib.cell_of_heap y 1, Lib.cell_of_heap y 2, Lib.cell_of_heap y 3, Lib.cell_of_heap y 4, Lib.cell_of_heap y 5, Lib.cell_of_heap y 6, Lib.cell_of_heap y 7, Lib.cell_of_heap y 8, Lib.cell_of_heap y 9, Lib.cell_of_heap y 10, Lib.cell_of_heap y 11, Lib.cell_of_heap y 12⟩
  have cV := HC.out V (Ev.refl _ _)
  have HD : Hid (∀ W, Below V.heap.size V W → Ev B V W) := hid_of fun W k => Ev.of_below k
  have HE0 : Hid (∀ W, Ev B V W → Ev B w W) := hid_of fun W k => (Ev.of_below bV).trans k
  obtain ⟨a, c, rfl, _⟩ := id f
  clear h f kp hV bV hx0 ok'
  have H1 := hid_of (score_call RV.out nm HOk.out.nm)
  rw [ho] at H1
  have H2 := hid_of (rfind_call _ m nm V FV.out.1 (Nat.le_of_lt hn))
  rw [find_yes ho] at H2
  have hpl := plc_lt ho
  obtain ⟨g, o, e0, hat⟩ := FV.out.1.at hpl
  have hsc : (m[plc m nm]'hpl).2 = valI m nm := by
    obtain ⟨s, hs⟩ : ∃ s, lkp m nm = some s := by unfold ok at ho; exact Option.isSome_iff_exists.1 ho
    have h1 : valI m nm = s := by unfold valI; rw [hs]; rfl
    have h2 : (nm, s) ∈ m := (lkp_iff hU.2).1 hs
    have h3 : (m[plc m nm]'hpl).1 = nm := by
      have hpl' : m.findIdx (fun p => p.1 == nm) < m.length := hpl
      have h9 := List.findIdx_getElem (xs := m) (p := fun p => p.1 == nm) (w := hpl')
      exact beq_iff_eq.1 (show ((m[plc m nm]'hpl).1 == nm) = true from h9)
    have h4 := uq_at hU.2 (List.getElem_mem hpl) h2 h3
    rw [h1, h4]
  have cs := (hat _ hpl).2
  rw [hsc] at cs
  subst e0
  generalize plc m nm = P at *
  generalize valI m nm = S0 at *
  have g1 : (P : Int) < (m.length : Int) := by omega
  have g0 : ¬ (P : Int) < 0 := by omega
  clear ho hat hsc
  obtain ⟨s0, s1, s2, s3, s4, s5, s6, s7, s8, s9, s10, s11, s12⟩ := cV
  go_enter Tryz.func14, Tryz.ntmps14
  go_wp2_with fail
  rw [← HV.out]
  refine H1.out.mono ?_
  rintro e w1 ⟨rfl, hw1⟩
  rw [hw1]
  clear hw1
  go_wp2_with fail
  refine H2.out.mono ?_
  rintro e w2 ⟨rfl, hw2⟩
  rw [hw2]
  clear hw2
  go_wp2_with fail
  go_ret2
  exact ⟨_, m, by first | rfl | simp, RV.out, FV.out.1, FV.out.2, HE0.out _ (Ev.refl _ _), Nat.le_succ _⟩
set_option maxHeartbeats 4000000 in
set_option maxRecDepth 100000 in
theorem step_else_no {B b : Nat} {m : EL} {v : Value} {w : World} (h : RK B b m w) (f : FS w v m) (kp : Kp B w v) (hB : B ≤ w.heap.size) (hn : m.length < big) (x : OpD) (ok' : OpOk x) (k0 : ¬ x.K = 0) (k2 : ¬ x.K = 2) (k3 : ¬ x.K = 3) (k4 : ¬ x.K = 4) (k5 : ¬ x.K = 5) (k6 : ¬ x.K = 6) (k7 : ¬ x.K = 7) (ho : ok m x.nm = false) : Calls Tryz.prog 14 #[ptr b, v, .agg (opC x)] w (StE B b m w) := by
  have hnb : m.length < 9000000000000 := hn
  have hU : Srt m ∧ Uq m := by obtain ⟨mm, t, ml, hx⟩ := h; exact ⟨hx.srt, hx.uq⟩
  obtain ⟨K, nm, A, Bq, ⟨li, lp, ls, ln⟩, ⟨ui, up, us, un⟩, tn⟩ := x
  unfold opC
  dsimp only at ok' ⊢ k0 k2 k3 k4 k5 k6 k7 ho
  obtain ⟨V, hV⟩ : ∃ V, V = w.alloc (.cells #[.int .i64 K, .string (mk nm), .int .i64 A, .int .i64 Bq, .int .i64 li, .bool lp, .int .i64 ls, .string (mk ln), .int .i64 ui, .bool up, .int .i64 us, .string (mk un), .bool tn] 41) := ⟨_, rfl⟩
  have bV : Below w.heap.size w V := by rw [hV]; exact bnew w _
  have hx0 : V.heap[w.heap.size]? = some (.cells #[.int .i64 K, .string (mk nm), .int .i64 A, .int .i64 Bq, .int .i64 li, .bool lp, .int .i64 ls, .string (mk ln), .int .i64 ui, .bool up, .int .i64 us, .string (mk un), .bool tn] 41 (0, 0)) := by rw [hV]; exact heap_alloc_new w _
  have HV := hid_of hV
  have HOk := hid_of ok'
  have HBV := hid_of bV
  have HSz : Hid (B ≤ V.heap.size) := hid_of (Nat.le_trans hB bV.size)
  have RV := hid_of (h.below bV)
  have FV := hid_of (And.intro (f.below bV) (kp.below bV))
  have HC : Hid (∀ W, Ev B V W → (fun W : World => W.cell? ⟨w.heap.size, 0, none⟩ = some (.int .i64 K) ∧ W.cell? ⟨w.heap.size, 1, none⟩ = some (.string (mk nm)) ∧ W.cell? ⟨w.heap.size, 2, none⟩ = some (.int .i64 A) ∧ W.cell? ⟨w.heap.size, 3, none⟩ = some (.int .i64 Bq) ∧ W.cell? ⟨w.heap.size, 4, none⟩ = some (.int .i64 li) ∧ W.cell? ⟨w.heap.size, 5, none⟩ = some (.bool lp) ∧ W.cell? ⟨w.heap.size, 6, none⟩ = some (.int .i64 ls) ∧ W.cell? ⟨w.heap.size, 7, none⟩ = some (.string (mk ln)) ∧ W.cell? ⟨w.heap.size, 8, none⟩ = some (.int .i64 ui) ∧ W.cell? ⟨w.heap.size, 9, none⟩ = some (.bool up) ∧ W.cell? ⟨w.heap.size, 10, none⟩ = some (.int .i64 us) ∧ W.cell? ⟨w.heap.size, 11, none⟩ = some (.string (mk un)) ∧ W.cell? ⟨w.heap.size, 12, none⟩ = some (.bool tn)) W) := hid_of fun W e => by
    have y := cells_ev hx0 e
    exact ⟨Lib.cell_of_heap y 0, Lib.cell_of_heap y 1, Lib.cell_of_heap y 2, Lib.cell_of_heap y 3, Lib.cell_of_heap y 4, Lib.cell_of_heap y 5, Lib.cell_of_heap y 6, Lib.cell_of_heap y 7, Lib.cell_of_heap y 8, Lib.cell_of_heap y 9, Lib.cell_of_heap y 10, Lib.cell_of_heap y 11, Lib.cell_of_heap y 12⟩
  have cV := HC.out V (Ev.refl _ _)
  have HD : Hid (∀ W, Below V.heap.size V W → Ev B V W) := hid_of fun W k => Ev.of_below k
  have HE0 : Hid (∀ W, Ev B V W → Ev B w W) := hid_of fun W k => (Ev.of_below bV).trans k
  obtain ⟨a, c, rfl, _⟩ := id f
  clear h f kp hV bV hx0 ok'
  have H1 := hid_of (score_call RV.out nm HOk.out.nm)
  rw [ho] at H1
  have H2 := hid_of (rfind_call _ m nm V FV.out.1 (Nat.le_of_lt hn))
  rw [find_no ho] at H2
  have HVl : valI m nm = 0 := by
    unfold valI
    unfold ok at ho
    cases hh : lkp m nm with
    | none => rfl
    | some s => rw [hh] at ho; cases ho
  rw [HVl] at H1
  clear ho HVl
  obtain ⟨s0, s1, s2, s3, s4, s5, s6, s7, s8, s9, s10, s11, s12⟩ := cV
  go_enter Tryz.func14, Tryz.ntmps14
  go_wp2_with fail
  rw [← HV.out]
  refine H1.out.mono ?_
  rintro e w1 ⟨rfl, hw1⟩
  rw [hw1]
  clear hw1
  go_wp2_with fail
  refine H2.out.mono ?_
  rintro e w2 ⟨rfl, hw2⟩
  rw [hw2]
  clear hw2
  go_wp2_with fail
  go_ret2
  exact ⟨_, m, by first | rfl | simp, RV.out, FV.out.1, FV.out.2, HE0.out _ (Ev.refl _ _), Nat.le_succ _⟩
end Go.Proofs.YtighoelipihifaaGreatDoor.PlaysG
