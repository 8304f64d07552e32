/- Bounds: what an end lets. -/
import Derived.Test.YtighoelipihifabGreatDoorRun
namespace Go.Proofs.YtighoelipihifabGreatDoor.Bound
open Go.RowKit Go.Maps Go.Sort
open Go.Proofs.YtighoelipihifabGreatDoor.MapMath
open Go.Proofs.YtighoelipihifabGreatDoor.RankMath
open Go.Proofs.YtighoelipihifabGreatDoor.RankMath2
open Go.Proofs.YtighoelipihifabGreatDoor.RankMath3
open Go.Proofs.YtighoelipihifabGreatDoor.Base
open Go.Proofs.YtighoelipihifabGreatDoor.Cmp
set_option linter.unusedVariables false

theorem last_neg {c : Int} (h : ¬ c = 0) : decide (c < 0) = !decide (0 < c) := by
  by_cases h2 : 0 < c
  · rw [decide_eq_true h2, decide_eq_false (by omega)]; rfl
  · rw [decide_eq_false h2, decide_eq_true (by omega)]; rfl
def bCells (b : Bnd) : List Value := [.int .i64 b.inf, .bool b.opn, .int .i64 b.score, .string (mk b.name)]
def bV (b : Bnd) : Value := .agg #[.int .i64 b.inf, .bool b.opn, .int .i64 b.score, .string (mk b.name)]
def iV (lo hi : Bnd) : Value := .agg #[.int .i64 lo.inf, .bool lo.opn, .int .i64 lo.score, .string (mk lo.name), .int .i64 hi.inf, .bool hi.opn, .int .i64 hi.score, .string (mk hi.name)]
def iO (lo hi : Bnd) : Array Value := #[.int .i64 lo.inf, .bool lo.opn, .int .i64 lo.score, .string (mk lo.name), .int .i64 hi.inf, .bool hi.opn, .int .i64 hi.score, .string (mk hi.name)]
set_option maxHeartbeats 2000000 in
set_option maxRecDepth 100000 in
theorem lets0 (b : Bnd) (c : Int) (w : World) : Calls Tryz.prog 71 #[.int .i64 0, bV b, .int .i64 c] w fun e w' => e = .returned (.bool (fitL b c)) ∧ Below w.heap.size w w' := by
  have HB := hid_of (bnew w (.cells #[.int .i64 b.inf, .bool b.opn, .int .i64 b.score, .string (mk b.name)] 59))
  have HF := hid_of (show fitL b c = fitL b c from rfl)
  unfold bV
  by_cases h1 : b.inf < 0
  · have HE : Hid (fitL b c = true) := hid_of (by unfold fitL; rw [if_pos h1])
    generalize mk b.name = N at *
    generalize b.inf = I at *
    go_enter Tryz.func71, Tryz.ntmps71
    go_wp2
    go_ret
    exact ⟨by rw [HE.out]; rfl, HB.out⟩
  · by_cases h2 : 0 < b.inf
    · have HE : Hid (fitL b c = false) := hid_of (by unfold fitL; rw [if_neg h1, if_pos h2])
      generalize mk b.name = N at *
      generalize b.inf = I at *
      go_enter Tryz.func71, Tryz.ntmps71
      go_wp2
      go_ret
      exact ⟨by rw [HE.out]; rfl, HB.out⟩
    · by_cases h3 : c = 0
      · have HE : Hid (fitL b c = !b.opn) := hid_of (by unfold fitL; rw [if_neg h1, if_neg h2, if_pos h3])
        have g3 : (c == 0) = true := by simpa using h3
        clear h3
        generalize mk b.name = N at *
        generalize b.inf = I at *
        go_enter Tryz.func71, Tryz.ntmps71
        go_wp2
        go_ret
        exact ⟨by rw [HE.out]; rfl, HB.out⟩
      · have g3 : (c == 0) = false := by simpa using h3
        have HE : Hid (fitL b c = decide (0 < c)) := hid_of (by unfold fitL; rw [if_neg h1, if_neg h2, if_neg h3])
        by_cases h4 : 0 < c
        · have HD : Hid (decide (0 < c) = true) := hid_of (decide_eq_true h4)
          clear h3
          generalize mk b.name = N at *
          generalize b.inf = I at *
          go_enter Tryz.func71, Tryz.ntmps71
          go_wp2
          go_ret
          exact ⟨by rw [HE.out, HD.out]; rfl, HB.out⟩
        · have HD : Hid (decide (0 < c) = false) := hid_of (decide_eq_false h4)
          clear h3
          generalize mk b.name = N at *
          generalize b.inf = I at *
          go_enter Tryz.func71, Tryz.ntmps71
          go_wp2
          go_ret
          exact ⟨by rw [HE.out, HD.out]; rfl, HB.out⟩
set_option maxHeartbeats 2000000 in
set_option maxRecDepth 100000 in
theorem lets1 (b : Bnd) (c : Int) (w : World) : Calls Tryz.prog 71 #[.int .i64 1, bV b, .int .i64 c] w fun e w' => e = .returned (.bool (fitU b c)) ∧ Below w.heap.size w w' := by
  have HB := hid_of (bnew w (.cells #[.int .i64 b.inf, .bool b.opn, .int .i64 b.score, .string (mk b.name)] 59))
  have HF := hid_of (show fitU b c = fitU b c from rfl)
  unfold bV
  by_cases h1 : b.inf < 0
  · have HE : Hid (fitU b c = false) := hid_of (by unfold fitU; rw [if_pos h1])
    generalize mk b.name = N at *
    generalize b.inf = I at *
    go_enter Tryz.func71, Tryz.ntmps71
    go_wp2
    go_ret
    exact ⟨by rw [HE.out]; rfl, HB.out⟩
  · by_cases h2 : 0 < b.inf
    · have HE : Hid (fitU b c = true) := hid_of (by unfold fitU; rw [if_neg h1, if_pos h2])
      generalize mk b.name = N at *
      generalize b.inf = I at *
      go_enter Tryz.func71, Tryz.ntmps71
      go_wp2
      go_ret
      exact ⟨by rw [HE.out]; rfl, HB.out⟩
    · by_cases h3 : c = 0
      · have HE : Hid (fitU b c = !b.opn) := hid_of (by unfold fitU; rw [if_neg h1, if_neg h2, if_pos h3])
        have g3 : (c == 0) = true := by simpa using h3
        clear h3
        generalize mk b.name = N at *
        generalize b.inf = I at *
        go_enter Tryz.func71, Tryz.ntmps71
        go_wp2
        go_ret
        exact ⟨by rw [HE.out]; rfl, HB.out⟩
      · have g3 : (c == 0) = false := by simpa using h3
        have HE : Hid (fitU b c = !decide (0 < c)) := hid_of (by unfold fitU; rw [if_neg h1, if_neg h2, if_neg h3]; exact last_neg h3)
        by_cases h4 : 0 < c
        · have HD : Hid (decide (0 < c) = true) := hid_of (decide_eq_true h4)
          clear h3
          generalize mk b.name = N at *
          generalize b.inf = I at *
          go_enter Tryz.func71, Tryz.ntmps71
          go_wp2
          go_ret
          exact ⟨by rw [HE.out, HD.out]; rfl, HB.out⟩
        · have HD : Hid (decide (0 < c) = false) := hid_of (decide_eq_false h4)
          clear h3
          generalize mk b.name = N at *
          generalize b.inf = I at *
          go_enter Tryz.func71, Tryz.ntmps71
          go_wp2
          go_ret
          exact ⟨by rw [HE.out, HD.out]; rfl, HB.out⟩
set_option maxHeartbeats 4000000 in
set_option maxRecDepth 100000 in
theorem scoreFits0 (lo hi : Bnd) (e : Ent) (w : World) : Calls Tryz.prog 46 #[iV lo hi, .int .i64 0, eV e] w fun z w' => z = .returned (.bool (scL lo e)) ∧ Below w.heap.size w w' := by
  have HC := hid_of (cmp_int e.2 lo.score)
  have HL := hid_of (lets0 lo (cmpI e.2 lo.score))
  have hR : scL lo e = fitL lo (cmpI e.2 lo.score) := rfl
  rw [hR]
  clear hR
  unfold iV eV bV at *
  generalize fitL lo (cmpI e.2 lo.score) = RR at *
  generalize cmpI e.2 lo.score = CC at *
  generalize mk lo.name = N at *
  generalize mk hi.name = N2 at *
  generalize mk e.1 = Y at *
  generalize lo.inf = I at *
  generalize hi.inf = I2 at *
  generalize lo.opn = O at *
  generalize hi.opn = O2 at *
  generalize lo.score = S at *
  generalize hi.score = S2 at *
  generalize e.2 = yy at *
  obtain ⟨V, hV⟩ : ∃ V, V = (w.alloc (.cells #[.int .i64 I, .bool O, .int .i64 S, .string N, .int .i64 I2, .bool O2, .int .i64 S2, .string N2] 80)).alloc (.cells #[.string Y, .int .i64 yy] 35) := ⟨_, rfl⟩
  have HBV : Hid (Below w.heap.size w V) := hid_of (by rw [hV]; exact Base.bel (bnew w _) (bnew _ _) (Nat.le_refl _))
  have HV := hid_of hV
  have p0 : V.cell? ⟨w.heap.size, 0, none⟩ = some (.int .i64 I) := by rw [hV]; simp
  have p1 : V.cell? ⟨w.heap.size, 1, none⟩ = some (.bool O) := by rw [hV]; simp
  have p2 : V.cell? ⟨w.heap.size, 2, none⟩ = some (.int .i64 S) := by rw [hV]; simp
  have p3 : V.cell? ⟨w.heap.size, 3, none⟩ = some (.string N) := by rw [hV]; simp
  have p4 : V.cell? ⟨w.heap.size + 1, 1, none⟩ = some (.int .i64 yy) := by rw [hV]; simp
  have HK : Hid (∀ W, Below V.heap.size V W → (fun V => V.cell? ⟨w.heap.size, 0, none⟩ = some (.int .i64 I) ∧ V.cell? ⟨w.heap.size, 1, none⟩ = some (.bool O) ∧ V.cell? ⟨w.heap.size, 2, none⟩ = some (.int .i64 S) ∧ V.cell? ⟨w.heap.size, 3, none⟩ = some (.string N) ∧ V.cell? ⟨w.heap.size + 1, 1, none⟩ = some (.int .i64 yy)) W) := hid_of fun W hW => ⟨cell_on hW p0, cell_on hW p1, cell_on hW p2, cell_on hW p3, cell_on hW p4⟩
  clear hV
  go_enter Tryz.func46, Tryz.ntmps46
  go_wp2_with fail
  rw [← HV.out]
  go_region_held3 (fun V => V.cell? ⟨w.heap.size, 0, none⟩ = some (.int .i64 I) ∧ V.cell? ⟨w.heap.size, 1, none⟩ = some (.bool O) ∧ V.cell? ⟨w.heap.size, 2, none⟩ = some (.int .i64 S) ∧ V.cell? ⟨w.heap.size, 3, none⟩ = some (.string N) ∧ V.cell? ⟨w.heap.size + 1, 1, none⟩ = some (.int .i64 yy)) (first | exact ⟨p0, p1, p2, p3, p4⟩ | exact k2) (first
    | (go_at_call 38; refine (HC.out _).mono ?_; rintro z w1 ⟨rfl, rfl⟩)
    | (go_at_call 71; refine (HL.out _).mono ?_; rintro z w2 hz2; obtain ⟨rfl, bb⟩ := hz2; have HB2 : Hid (Below V.heap.size V w2) := hid_of ((Below.refl _ V).drew.trans bb); have k2 := HK.out w2 HB2.out; clear bb))
  go_wp2_with fail
  go_ret
  exact ⟨rfl, Base.bel HBV.out HB2.out (Nat.le_refl _)⟩
set_option maxHeartbeats 4000000 in
set_option maxRecDepth 100000 in
theorem scoreFits1 (lo hi : Bnd) (e : Ent) (w : World) : Calls Tryz.prog 46 #[iV lo hi, .int .i64 1, eV e] w fun z w' => z = .returned (.bool (scU hi e)) ∧ Below w.heap.size w w' := by
  have HC := hid_of (cmp_int e.2 hi.score)
  have HL := hid_of (lets1 hi (cmpI e.2 hi.score))
  have hR : scU hi e = fitU hi (cmpI e.2 hi.score) := rfl
  rw [hR]
  clear hR
  unfold iV eV bV at *
  generalize fitU hi (cmpI e.2 hi.score) = RR at *
  generalize cmpI e.2 hi.score = CC at *
  generalize mk lo.name = N at *
  generalize mk hi.name = N2 at *
  generalize mk e.1 = Y at *
  generalize lo.inf = I at *
  generalize hi.inf = I2 at *
  generalize lo.opn = O at *
  generalize hi.opn = O2 at *
  generalize lo.score = S at *
  generalize hi.score = S2 at *
  generalize e.2 = yy at *
  obtain ⟨V, hV⟩ : ∃ V, V = (w.alloc (.cells #[.int .i64 I, .bool O, .int .i64 S, .string N, .int .i64 I2, .bool O2, .int .i64 S2, .string N2] 80)).alloc (.cells #[.string Y, .int .i64 yy] 35) := ⟨_, rfl⟩
  have HBV : Hid (Below w.heap.size w V) := hid_of (by rw [hV]; exact Base.bel (bnew w _) (bnew _ _) (Nat.le_refl _))
  have HV := hid_of hV
  have p0 : V.cell? ⟨w.heap.size, 4, none⟩ = some (.int .i64 I2) := by rw [hV]; simp
  have p1 : V.cell? ⟨w.heap.size, 5, none⟩ = some (.bool O2) := by rw [hV]; simp
  have p2 : V.cell? ⟨w.heap.size, 6, none⟩ = some (.int .i64 S2) := by rw [hV]; simp
  have p3 : V.cell? ⟨w.heap.size, 7, none⟩ = some (.string N2) := by rw [hV]; simp
  have p4 : V.cell? ⟨w.heap.size + 1, 1, none⟩ = some (.int .i64 yy) := by rw [hV]; simp
  have HK : Hid (∀ W, Below V.heap.size V W → (fun V => V.cell? ⟨w.heap.size, 4, none⟩ = some (.int .i64 I2) ∧ V.cell? ⟨w.heap.size, 5, none⟩ = some (.bool O2) ∧ V.cell? ⟨w.heap.size, 6, none⟩ = some (.int .i64 S2) ∧ V.cell? ⟨w.heap.size, 7, none⟩ = some (.string N2) ∧ V.cell? ⟨w.heap.size + 1, 1, none⟩ = some (.int .i64 yy)) W) := hid_of fun W hW => ⟨cell_on hW p0, cell_on hW p1, cell_on hW p2, cell_on hW p3, cell_on hW p4⟩
  clear hV
  go_enter Tryz.func46, Tryz.ntmps46
  go_wp2_with fail
  rw [← HV.out]
  go_region_held3 (fun V => V.cell? ⟨w.heap.size, 4, none⟩ = some (.int .i64 I2) ∧ V.cell? ⟨w.heap.size, 5, none⟩ = some (.bool O2) ∧ V.cell? ⟨w.heap.size, 6, none⟩ = some (.int .i64 S2) ∧ V.cell? ⟨w.heap.size, 7, none⟩ = some (.string N2) ∧ V.cell? ⟨w.heap.size + 1, 1, none⟩ = some (.int .i64 yy)) (first | exact ⟨p0, p1, p2, p3, p4⟩ | exact k2) (first
    | (go_at_call 38; refine (HC.out _).mono ?_; rintro z w1 ⟨rfl, rfl⟩)
    | (go_at_call 71; refine (HL.out _).mono ?_; rintro z w2 hz2; obtain ⟨rfl, bb⟩ := hz2; have HB2 : Hid (Below V.heap.size V w2) := hid_of ((Below.refl _ V).drew.trans bb); have k2 := HK.out w2 HB2.out; clear bb))
  go_wp2_with fail
  go_ret
  exact ⟨rfl, Base.bel HBV.out HB2.out (Nat.le_refl _)⟩
set_option maxHeartbeats 4000000 in
set_option maxRecDepth 100000 in
theorem nameFits0 (lo hi : Bnd) (e : Ent) (w : World) : Calls Tryz.prog 51 #[iV lo hi, .int .i64 0, eV e] w fun z w' => z = .returned (.bool (nmL lo e)) ∧ Below w.heap.size w w' := by
  have HC := hid_of (cmp_str e.1 lo.name)
  have HL := hid_of (lets0 lo (cmpB e.1 lo.name))
  have hR : nmL lo e = fitL lo (cmpB e.1 lo.name) := rfl
  rw [hR]
  clear hR
  unfold iV eV bV at *
  generalize fitL lo (cmpB e.1 lo.name) = RR at *
  generalize cmpB e.1 lo.name = CC at *
  generalize mk lo.name = N at *
  generalize mk hi.name = N2 at *
  generalize mk e.1 = Y at *
  generalize lo.inf = I at *
  generalize hi.inf = I2 at *
  generalize lo.opn = O at *
  generalize hi.opn = O2 at *
  generalize lo.score = S at *
  generalize hi.score = S2 at *
  generalize e.2 = yy at *
  obtain ⟨V, hV⟩ : ∃ V, V = (w.alloc (.cells #[.int .i64 I, .bool O, .int .i64 S, .string N, .int .i64 I2, .bool O2, .int .i64 S2, .string N2] 80)).alloc (.cells #[.string Y, .int .i64 yy] 35) := ⟨_, rfl⟩
  have HBV : Hid (Below w.heap.size w V) := hid_of (by rw [hV]; exact Base.bel (bnew w _) (bnew _ _) (Nat.le_refl _))
  have HV := hid_of hV
  have p0 : V.cell? ⟨w.heap.size, 0, none⟩ = some (.int .i64 I) := by rw [hV]; simp
  have p1 : V.cell? ⟨w.heap.size, 1, none⟩ = some (.bool O) := by rw [hV]; simp
  have p2 : V.cell? ⟨w.heap.size, 2, none⟩ = some (.int .i64 S) := by rw [hV]; simp
  have p3 : V.cell? ⟨w.heap.size, 3, none⟩ = some (.string N) := by rw [hV]; simp
  have p4 : V.cell? ⟨w.heap.size + 1, 0, none⟩ = some (.string Y) := by rw [hV]; simp
  have HK : Hid (∀ W, Below V.heap.size V W → (fun V => V.cell? ⟨w.heap.size, 0, none⟩ = some (.int .i64 I) ∧ V.cell? ⟨w.heap.size, 1, none⟩ = some (.bool O) ∧ V.cell? ⟨w.heap.size, 2, none⟩ = some (.int .i64 S) ∧ V.cell? ⟨w.heap.size, 3, none⟩ = some (.string N) ∧ V.cell? ⟨w.heap.size + 1, 0, none⟩ = some (.string Y)) W) := hid_of fun W hW => ⟨cell_on hW p0, cell_on hW p1, cell_on hW p2, cell_on hW p3, cell_on hW p4⟩
  clear hV
  go_enter Tryz.func51, Tryz.ntmps51
  go_wp2_with fail
  rw [← HV.out]
  go_region_held3 (fun V => V.cell? ⟨w.heap.size, 0, none⟩ = some (.int .i64 I) ∧ V.cell? ⟨w.heap.size, 1, none⟩ = some (.bool O) ∧ V.cell? ⟨w.heap.size, 2, none⟩ = some (.int .i64 S) ∧ V.cell? ⟨w.heap.size, 3, none⟩ = some (.string N) ∧ V.cell? ⟨w.heap.size + 1, 0, none⟩ = some (.string Y)) (first | exact ⟨p0, p1, p2, p3, p4⟩ | exact k2) (first
    | (go_at_call 39; refine (HC.out _).mono ?_; rintro z w1 ⟨rfl, rfl⟩)
    | (go_at_call 71; refine (HL.out _).mono ?_; rintro z w2 hz2; obtain ⟨rfl, bb⟩ := hz2; have HB2 : Hid (Below V.heap.size V w2) := hid_of ((Below.refl _ V).drew.trans bb); have k2 := HK.out w2 HB2.out; clear bb))
  go_wp2_with fail
  go_ret
  exact ⟨rfl, Base.bel HBV.out HB2.out (Nat.le_refl _)⟩
set_option maxHeartbeats 4000000 in
set_option maxRecDepth 100000 in
theorem nameFits1 (lo hi : Bnd) (e : Ent) (w : World) : Calls Tryz.prog 51 #[iV lo hi, .int .i64 1, eV e] w fun z w' => z = .returned (.bool (nmU hi e)) ∧ Below w.heap.size w w' := by
  have HC := hid_of (cmp_str e.1 hi.name)
  have HL := hid_of (lets1 hi (cmpB e.1 hi.name))
  have hR : nmU hi e = fitU hi (cmpB e.1 hi.name) := rfl
  rw [hR]
  clear hR
  unfold iV eV bV at *
  generalize fitU hi (cmpB e.1 hi.name) = RR at *
  generalize cmpB e.1 hi.name = CC at *
  generalize mk lo.name = N at *
  generalize mk hi.name = N2 at *
  generalize mk e.1 = Y at *
  generalize lo.inf = I at *
  generalize hi.inf = I2 at *
  generalize lo.opn = O at *
  generalize hi.opn = O2 at *
  generalize lo.score = S at *
  generalize hi.score = S2 at *
  generalize e.2 = yy at *
  obtain ⟨V, hV⟩ : ∃ V, V = (w.alloc (.cells #[.int .i64 I, .bool O, .int .i64 S, .string N, .int .i64 I2, .bool O2, .int .i64 S2, .string N2] 80)).alloc (.cells #[.string Y, .int .i64 yy] 35) := ⟨_, rfl⟩
  have HBV : Hid (Below w.heap.size w V) := hid_of (by rw [hV]; exact Base.bel (bnew w _) (bnew _ _) (Nat.le_refl _))
  have HV := hid_of hV
  have p0 : V.cell? ⟨w.heap.size, 4, none⟩ = some (.int .i64 I2) := by rw [hV]; simp
  have p1 : V.cell? ⟨w.heap.size, 5, none⟩ = some (.bool O2) := by rw [hV]; simp
  have p2 : V.cell? ⟨w.heap.size, 6, none⟩ = some (.int .i64 S2) := by rw [hV]; simp
  have p3 : V.cell? ⟨w.heap.size, 7, none⟩ = some (.string N2) := by rw [hV]; simp
  have p4 : V.cell? ⟨w.heap.size + 1, 0, none⟩ = some (.string Y) := by rw [hV]; simp
  have HK : Hid (∀ W, Below V.heap.size V W → (fun V => V.cell? ⟨w.heap.size, 4, none⟩ = some (.int .i64 I2) ∧ V.cell? ⟨w.heap.size, 5, none⟩ = some (.bool O2) ∧ V.cell? ⟨w.heap.size, 6, none⟩ = some (.int .i64 S2) ∧ V.cell? ⟨w.heap.size, 7, none⟩ = some (.string N2) ∧ V.cell? ⟨w.heap.size + 1, 0, none⟩ = some (.string Y)) W) := hid_of fun W hW => ⟨cell_on hW p0, cell_on hW p1, cell_on hW p2, cell_on hW p3, cell_on hW p4⟩
  clear hV
  go_enter Tryz.func51, Tryz.ntmps51
  go_wp2_with fail
  rw [← HV.out]
  go_region_held3 (fun V => V.cell? ⟨w.heap.size, 4, none⟩ = some (.int .i64 I2) ∧ V.cell? ⟨w.heap.size, 5, none⟩ = some (.bool O2) ∧ V.cell? ⟨w.heap.size, 6, none⟩ = some (.int .i64 S2) ∧ V.cell? ⟨w.heap.size, 7, none⟩ = some (.string N2) ∧ V.cell? ⟨w.heap.size + 1, 0, none⟩ = some (.string Y)) (first | exact ⟨p0, p1, p2, p3, p4⟩ | exact k2) (first
    | (go_at_call 39; refine (HC.out _).mono ?_; rintro z w1 ⟨rfl, rfl⟩)
    | (go_at_call 71; refine (HL.out _).mono ?_; rintro z w2 hz2; obtain ⟨rfl, bb⟩ := hz2; have HB2 : Hid (Below V.heap.size V w2) := hid_of ((Below.refl _ V).drew.trans bb); have k2 := HK.out w2 HB2.out; clear bb))
  go_wp2_with fail
  go_ret
  exact ⟨rfl, Base.bel HBV.out HB2.out (Nat.le_refl _)⟩
set_option maxHeartbeats 4000000 in
set_option maxRecDepth 100000 in
theorem clo_score0 (lo hi : Bnd) (e : Ent) (g : Nat) (w : World) (h : ∀ i (hi2 : i < 8), w.cell? ⟨g, i, none⟩ = (iO lo hi)[i]?) : Calls Tryz.prog 45 (#[eV e] ++ #[.pointer (some ⟨g, 0, none⟩)]) w fun z w' => z = .returned (.bool (!scL lo e)) ∧ Below w.heap.size w w' := by
  have H1 := hid_of (scoreFits0 lo hi e)
  have c0 : w.cell? ⟨g, 0, none⟩ = some (.int .i64 lo.inf) := h 0 (by omega)
  have c1 : w.cell? ⟨g, 1, none⟩ = some (.bool lo.opn) := h 1 (by omega)
  have c2 : w.cell? ⟨g, 2, none⟩ = some (.int .i64 lo.score) := h 2 (by omega)
  have c3 : w.cell? ⟨g, 3, none⟩ = some (.string (mk lo.name)) := h 3 (by omega)
  have c4 : w.cell? ⟨g, 4, none⟩ = some (.int .i64 hi.inf) := h 4 (by omega)
  have c5 : w.cell? ⟨g, 5, none⟩ = some (.bool hi.opn) := h 5 (by omega)
  have c6 : w.cell? ⟨g, 6, none⟩ = some (.int .i64 hi.score) := h 6 (by omega)
  have c7 : w.cell? ⟨g, 7, none⟩ = some (.string (mk hi.name)) := h 7 (by omega)
  have bA := bnew w (.cells #[.string (mk e.1), .int .i64 e.2] 35)
  have d0 := cell_on bA c0
  have d1 := cell_on bA c1
  have d2 := cell_on bA c2
  have d3 := cell_on bA c3
  have d4 := cell_on bA c4
  have d5 := cell_on bA c5
  have d6 := cell_on bA c6
  have d7 := cell_on bA c7
  have HA := hid_of bA
  clear h c0 c1 c2 c3 c4 c5 c6 c7 bA
  show Calls Tryz.prog 45 #[eV e, .pointer (some ⟨g, 0, none⟩)] w _
  unfold eV iV at *
  generalize scL lo e = RR at *
  generalize mk lo.name = N at *
  generalize mk hi.name = N2 at *
  generalize mk e.1 = Y at *
  generalize lo.inf = I at *
  generalize hi.inf = I2 at *
  generalize lo.opn = O at *
  generalize hi.opn = O2 at *
  generalize lo.score = S at *
  generalize hi.score = S2 at *
  generalize e.2 = yy at *
  go_enter Tryz.func45, Tryz.ntmps45
  go_wp2_with fail
  refine (H1.out _).mono ?_
  rintro z w2 hz2
  obtain ⟨rfl, bb⟩ := hz2
  have HB := hid_of bb
  clear bb
  go_wp2_with fail
  go_ret
  exact ⟨rfl, Base.bel HA.out HB.out (Nat.le_refl _)⟩
set_option maxHeartbeats 4000000 in
set_option maxRecDepth 100000 in
theorem clo_score1 (lo hi : Bnd) (e : Ent) (g : Nat) (w : World) (h : ∀ i (hi2 : i < 8), w.cell? ⟨g, i, none⟩ = (iO lo hi)[i]?) : Calls Tryz.prog 47 (#[eV e] ++ #[.pointer (some ⟨g, 0, none⟩)]) w fun z w' => z = .returned (.bool (scU hi e)) ∧ Below w.heap.size w w' := by
  have H1 := hid_of (scoreFits1 lo hi e)
  have c0 : w.cell? ⟨g, 0, none⟩ = some (.int .i64 lo.inf) := h 0 (by omega)
  have c1 : w.cell? ⟨g, 1, none⟩ = some (.bool lo.opn) := h 1 (by omega)
  have c2 : w.cell? ⟨g, 2, none⟩ = some (.int .i64 lo.score) := h 2 (by omega)
  have c3 : w.cell? ⟨g, 3, none⟩ = some (.string (mk lo.name)) := h 3 (by omega)
  have c4 : w.cell? ⟨g, 4, none⟩ = some (.int .i64 hi.inf) := h 4 (by omega)
  have c5 : w.cell? ⟨g, 5, none⟩ = some (.bool hi.opn) := h 5 (by omega)
  have c6 : w.cell? ⟨g, 6, none⟩ = some (.int .i64 hi.score) := h 6 (by omega)
  have c7 : w.cell? ⟨g, 7, none⟩ = some (.string (mk hi.name)) := h 7 (by omega)
  have bA := bnew w (.cells #[.string (mk e.1), .int .i64 e.2] 35)
  have d0 := cell_on bA c0
  have d1 := cell_on bA c1
  have d2 := cell_on bA c2
  have d3 := cell_on bA c3
  have d4 := cell_on bA c4
  have d5 := cell_on bA c5
  have d6 := cell_on bA c6
  have d7 := cell_on bA c7
  have HA := hid_of bA
  clear h c0 c1 c2 c3 c4 c5 c6 c7 bA
  show Calls Tryz.prog 47 #[eV e, .pointer (some ⟨g, 0, none⟩)] w _
  unfold eV iV at *
  generalize scU hi e = RR at *
  generalize mk lo.name = N at *
  generalize mk hi.name = N2 at *
  generalize mk e.1 = Y at *
  generalize lo.inf = I at *
  generalize hi.inf = I2 at *
  generalize lo.opn = O at *
  generalize hi.opn = O2 at *
  generalize lo.score = S at *
  generalize hi.score = S2 at *
  generalize e.2 = yy at *
  go_enter Tryz.func47, Tryz.ntmps47
  go_wp2_with fail
  refine (H1.out _).mono ?_
  rintro z w2 hz2
  obtain ⟨rfl, bb⟩ := hz2
  have HB := hid_of bb
  clear bb
  go_wp2_with fail
  go_ret
  exact ⟨rfl, Base.bel HA.out HB.out (Nat.le_refl _)⟩
set_option maxHeartbeats 8000000 in
set_option maxRecDepth 100000 in
theorem clo_name (lo hi : Bnd) (e : Ent) (g : Nat) (w : World) (h : ∀ i (hi2 : i < 8), w.cell? ⟨g, i, none⟩ = (iO lo hi)[i]?) : Calls Tryz.prog 50 (#[eV e] ++ #[.pointer (some ⟨g, 0, none⟩)]) w fun z w' => z = .returned (.bool (!(nmL lo e && nmU hi e))) ∧ Below w.heap.size w w' := by
  have H1 := hid_of (nameFits0 lo hi e)
  have H2 := hid_of (nameFits1 lo hi e)
  have c0 : w.cell? ⟨g, 0, none⟩ = some (.int .i64 lo.inf) := h 0 (by omega)
  have c1 : w.cell? ⟨g, 1, none⟩ = some (.bool lo.opn) := h 1 (by omega)
  have c2 : w.cell? ⟨g, 2, none⟩ = some (.int .i64 lo.score) := h 2 (by omega)
  have c3 : w.cell? ⟨g, 3, none⟩ = some (.string (mk lo.name)) := h 3 (by omega)
  have c4 : w.cell? ⟨g, 4, none⟩ = some (.int .i64 hi.inf) := h 4 (by omega)
  have c5 : w.cell? ⟨g, 5, none⟩ = some (.bool hi.opn) := h 5 (by omega)
  have c6 : w.cell? ⟨g, 6, none⟩ = some (.int .i64 hi.score) := h 6 (by omega)
  have c7 : w.cell? ⟨g, 7, none⟩ = some (.string (mk hi.name)) := h 7 (by omega)
  obtain ⟨V, hV⟩ : ∃ V, V = w.alloc (.cells #[.string (mk e.1), .int .i64 e.2] 35) := ⟨_, rfl⟩
  have bA : Below w.heap.size w V := by rw [hV]; exact bnew w _
  have p0 : V.cell? ⟨w.heap.size, 0, none⟩ = some (.string (mk e.1)) := by rw [hV]; simp
  have p1 : V.cell? ⟨w.heap.size, 1, none⟩ = some (.int .i64 e.2) := by rw [hV]; simp
  have HK : Hid (∀ W, Below V.heap.size V W → W.cell? ⟨g, 0, none⟩ = some (.int .i64 lo.inf) ∧ W.cell? ⟨g, 1, none⟩ = some (.bool lo.opn) ∧ W.cell? ⟨g, 2, none⟩ = some (.int .i64 lo.score) ∧ W.cell? ⟨g, 3, none⟩ = some (.string (mk lo.name)) ∧ W.cell? ⟨g, 4, none⟩ = some (.int .i64 hi.inf) ∧ W.cell? ⟨g, 5, none⟩ = some (.bool hi.opn) ∧ W.cell? ⟨g, 6, none⟩ = some (.int .i64 hi.score) ∧ W.cell? ⟨g, 7, none⟩ = some (.string (mk hi.name)) ∧ W.cell? ⟨w.heap.size, 0, none⟩ = some (.string (mk e.1)) ∧ W.cell? ⟨w.heap.size, 1, none⟩ = some (.int .i64 e.2)) := hid_of fun W hW => ⟨cell_on hW (cell_on bA c0), cell_on hW (cell_on bA c1), cell_on hW (cell_on bA c2), cell_on hW (cell_on bA c3), cell_on hW (cell_on bA c4), cell_on hW (cell_on bA c5), cell_on hW (cell_on bA c6), cell_on hW (cell_on bA c7), cell_on hW p0, cell_on hW p1⟩
  obtain ⟨d0, d1, d2, d3, d4, d5, d6, d7, d8, d9⟩ := HK.out V (Below.refl _ _)
  rw [hV] at d0 d1 d2 d3 d4 d5 d6 d7 d8 d9
  have HA := hid_of bA
  have HV := hid_of hV
  clear h c0 c1 c2 c3 c4 c5 c6 c7 bA hV p0 p1
  show Calls Tryz.prog 50 #[eV e, .pointer (some ⟨g, 0, none⟩)] w _
  unfold eV iV at *
  generalize nmL lo e = RL at *
  generalize nmU hi e = RU at *
  generalize mk lo.name = N at *
  generalize mk hi.name = N2 at *
  generalize mk e.1 = Y at *
  generalize lo.inf = I at *
  generalize hi.inf = I2 at *
  generalize lo.opn = O at *
  generalize hi.opn = O2 at *
  generalize lo.score = S at *
  generalize hi.score = S2 at *
  generalize e.2 = yy at *
  cases RL with
  | false =>
    go_enter Tryz.func50, Tryz.ntmps50
    go_wp2_with fail
    refine (H1.out _).mono ?_
    rintro z w2 hz2
    obtain ⟨rfl, bb⟩ := hz2
    rw [← HV.out] at bb
    have HB := hid_of bb
    clear bb
    go_wp2_with fail
    go_ret
    exact ⟨rfl, Base.bel HA.out HB.out (Nat.le_refl _)⟩
  | true =>
    go_enter Tryz.func50, Tryz.ntmps50
    go_wp2_with fail
    refine (H1.out _).mono ?_
    rintro z w2 hz2
    obtain ⟨rfl, bb⟩ := hz2
    rw [← HV.out] at bb
    obtain ⟨i0, i1, i2, i3, i4, i5, i6, i7, i8, i9⟩ := HK.out w2 bb
    have HB := hid_of bb
    clear bb d0 d1 d2 d3 d4 d5 d6 d7 d8 d9
    go_wp2_with fail
    refine (H2.out w2).mono ?_
    rintro z w3 hz3
    obtain ⟨rfl, bb⟩ := hz3
    have HB3 := hid_of bb
    clear bb
    go_wp2_with fail
    go_ret
    exact ⟨rfl, Base.bel (Base.bel HA.out HB.out (Nat.le_refl _)) HB3.out (Nat.le_refl _)⟩
end Go.Proofs.YtighoelipihifabGreatDoor.Bound
