/- compare: the order of entries. -/
import Derived.Test.YtighoelipihifabGreatDoorBase
import Derived.Sort.Grow
namespace Go.Proofs.YtighoelipihifabGreatDoor.Cmp
open Go.RowKit Go.Maps Go.Sort
open Go.Proofs.YtighoelipihifabGreatDoor.MapMath
open Go.Proofs.YtighoelipihifabGreatDoor.RankMath
open Go.Proofs.YtighoelipihifabGreatDoor.RankMath2
open Go.Proofs.YtighoelipihifabGreatDoor.RankMath3
open Go.Proofs.YtighoelipihifabGreatDoor.Base
set_option linter.unusedVariables false

theorem nan_int (x : Int) (w : World) : Calls Tryz.prog 66 #[.int .i64 x] w fun e w' => e = .returned (.bool false) ∧ w' = w := by
  go_enter Tryz.func66, Tryz.ntmps66
  go_wp2
  go_ret
  exact ⟨by simp, rfl⟩
theorem nan_string (x : ByteArray) (w : World) : Calls Tryz.prog 67 #[.string x] w fun e w' => e = .returned (.bool false) ∧ w' = w := by
  go_enter Tryz.func67, Tryz.ntmps67
  go_wp2
  go_ret
  exact ⟨by simp, rfl⟩
set_option maxHeartbeats 1000000 in
theorem cmp_int (x y : Int) (w : World) : Calls Tryz.prog 38 #[.int .i64 x, .int .i64 y] w fun e w' => e = .returned (.int .i64 (cmpI x y)) ∧ w' = w := by
  have h1 := nan_int x w
  have h2 := nan_int y w
  unfold cmpI
  by_cases hl : x < y
  · rw [if_pos hl]
    go_enter Tryz.func38, Tryz.ntmps38
    go_wp2
    go_ret
    exact ⟨rfl, rfl⟩
  · rw [if_neg hl]
    by_cases hg : y < x
    · rw [if_pos hg]
      go_enter Tryz.func38, Tryz.ntmps38
      go_wp2
      go_ret
      exact ⟨rfl, rfl⟩
    · rw [if_neg hg]
      go_enter Tryz.func38, Tryz.ntmps38
      go_wp2
      go_ret
      exact ⟨rfl, rfl⟩
set_option maxHeartbeats 1000000 in
theorem cmp_str (x y : Bs) (w : World) : Calls Tryz.prog 39 #[.string (mk x), .string (mk y)] w fun e w' => e = .returned (.int .i64 (cmpB x y)) ∧ w' = w := by
  have h1 := nan_string (mk x) w
  have h2 := nan_string (mk y) w
  have l1 := less_mk x y
  have l2 := less_mk y x
  have l3 := str_eq x y
  unfold cmpB
  by_cases hl : x < y
  · rw [if_pos hl]
    rw [decide_eq_true hl] at l1
    clear hl l2 l3
    generalize mk x = X at *
    generalize mk y = Y at *
    go_enter Tryz.func39, Tryz.ntmps39
    go_wp2
    go_ret
    exact ⟨rfl, rfl⟩
  · rw [if_neg hl]
    rw [decide_eq_false hl] at l1
    by_cases hg : y < x
    · rw [if_pos hg]
      rw [decide_eq_true hg] at l2
      rw [show (x == y) = false from by simp; rintro rfl; exact hl hg] at l3
      clear hl hg
      generalize mk x = X at *
      generalize mk y = Y at *
      go_enter Tryz.func39, Tryz.ntmps39
      go_wp2
      go_ret
      exact ⟨rfl, rfl⟩
    · rw [if_neg hg]
      rw [decide_eq_false hg] at l2
      rw [show (x == y) = true from by simp; rcases lt_tot x y with q | q | q; exact absurd q hl; exact q; exact absurd q hg] at l3
      clear hl hg
      generalize mk x = X at *
      generalize mk y = Y at *
      go_enter Tryz.func39, Tryz.ntmps39
      go_wp2
      go_ret
      exact ⟨rfl, rfl⟩
set_option maxHeartbeats 1000000 in
theorem or_call (x y : Int) (g : Nat) (w : World) (h0 : w.cell? ⟨g, 0, none⟩ = some (.int .i64 x)) (h1 : w.cell? ⟨g, 1, none⟩ = some (.int .i64 y)) : Calls Tryz.prog 37 #[.slice (some ⟨g, 0, none⟩) 2 2] w fun e w' => e = .returned (.int .i64 (if x = 0 then y else x)) ∧ w' = w := by
  by_cases hx : x = 0
  · rw [if_pos hx]
    subst hx
    by_cases hy : y = 0
    · subst hy
      go_enter Tryz.func37, Tryz.ntmps37
      go_wp2
      refine wp_loop_rounds 3 ?_
      rw [rounds_succ]
      go_wp2
      rw [rounds_succ]
      go_wp2
      rw [rounds_succ]
      go_wp2
      go_ret
      exact ⟨rfl, rfl⟩
    · go_enter Tryz.func37, Tryz.ntmps37
      go_wp2
      refine wp_loop_rounds 3 ?_
      rw [rounds_succ]
      go_wp2
      rw [rounds_succ]
      go_wp2
      go_ret
      exact ⟨rfl, rfl⟩
  · rw [if_neg hx]
    go_enter Tryz.func37, Tryz.ntmps37
    go_wp2
    refine wp_loop_rounds 3 ?_
    rw [rounds_succ]
    go_wp2
    go_ret
    exact ⟨rfl, rfl⟩
def cmpE (a b : Ent) : Int := if cmpI a.2 b.2 = 0 then cmpB a.1 b.1 else cmpI a.2 b.2
theorem cmpE_lt (a b : Ent) : cmpE a b < 0 ↔ ltE a b := by
  unfold cmpE cmpI cmpB ltE
  by_cases h1 : a.2 < b.2
  · simp [h1]
  · by_cases h2 : b.2 < a.2
    · simp [h1, h2]; omega
    · have h3 : a.2 = b.2 := by omega
      rw [if_neg h1, if_neg h2, if_pos rfl]
      by_cases h4 : a.1 < b.1
      · simp [h4, h3]
      · rw [if_neg h4]
        by_cases h5 : b.1 < a.1
        · rw [if_pos h5]; simp [h4, h1]
        · rw [if_neg h5]; simp [h4, h1]
def eV (p : Ent) : Value := .agg #[.string (mk p.1), .int .i64 p.2]
set_option maxHeartbeats 4000000 in
set_option maxRecDepth 100000 in
theorem compare_call (a b : Ent) (w : World) : Calls Tryz.prog 19 #[eV a, eV b] w fun e w' => e = .returned (.int .i64 (cmpE a b)) ∧ ∃ n os, w' = grow (w.drewN n) os := by
  have hI : ∀ W, Calls Tryz.prog 38 #[.int .i64 a.2, .int .i64 b.2] W fun e w' => e = .returned (.int .i64 (cmpI a.2 b.2)) ∧ w' = W := cmp_int a.2 b.2
  have hS : ∀ W, Calls Tryz.prog 39 #[.string (mk a.1), .string (mk b.1)] W fun e w' => e = .returned (.int .i64 (cmpB a.1 b.1)) ∧ w' = W := cmp_str a.1 b.1
  have hO := or_call (cmpI a.2 b.2) (cmpB a.1 b.1)
  rw [show (if cmpI a.2 b.2 = 0 then cmpB a.1 b.1 else cmpI a.2 b.2) = cmpE a b from rfl] at hO
  unfold eV
  generalize cmpE a b = R at *
  generalize cmpI a.2 b.2 = CI at *
  generalize cmpB a.1 b.1 = CS at *
  generalize mk a.1 = X at *
  generalize mk b.1 = Y at *
  generalize a.2 = x at *
  generalize b.2 = y at *
  go_enter Tryz.func19, Tryz.ntmps19
  go_wp2_with fail
  obtain ⟨W, hW⟩ : ∃ W, W = (w.alloc (.cells #[.string X, .int .i64 x] 35)).alloc (.cells #[.string Y, .int .i64 y] 35) := ⟨_, rfl⟩
  have p0 : W.cell? ⟨w.heap.size, 0, none⟩ = some (.string X) := by rw [hW]; simp
  have p1 : W.cell? ⟨w.heap.size, 1, none⟩ = some (.int .i64 x) := by rw [hW]; simp
  have p2 : W.cell? ⟨w.heap.size + 1, 0, none⟩ = some (.string Y) := by rw [hW]; simp
  have p3 : W.cell? ⟨w.heap.size + 1, 1, none⟩ = some (.int .i64 y) := by rw [hW]; simp
  have HW := hid_of hW
  rw [← hW]
  have hs : w.heap.size + 2 = W.heap.size := by rw [hW]; simp
  clear hW
  obtain ⟨V, hV⟩ : ∃ V, V = W.alloc (.cells #[.int .i64 CI, .int .i64 CS] 3) := ⟨_, rfl⟩
  have bV : Below W.heap.size W V := by rw [hV]; exact bnew W _
  have q0 : (W.alloc (.cells #[.int .i64 CI, .int .i64 CS] 3)).drew.cell? ⟨w.heap.size, 0, none⟩ = some (.string X) := by rw [← hV]; exact cell_on bV p0
  have q1 : (W.alloc (.cells #[.int .i64 CI, .int .i64 CS] 3)).drew.cell? ⟨w.heap.size, 1, none⟩ = some (.int .i64 x) := by rw [← hV]; exact cell_on bV p1
  have q2 : (W.alloc (.cells #[.int .i64 CI, .int .i64 CS] 3)).drew.cell? ⟨w.heap.size + 1, 0, none⟩ = some (.string Y) := by rw [← hV]; exact cell_on bV p2
  have q3 : (W.alloc (.cells #[.int .i64 CI, .int .i64 CS] 3)).drew.cell? ⟨w.heap.size + 1, 1, none⟩ = some (.int .i64 y) := by rw [← hV]; exact cell_on bV p3
  have HO := hid_of (hO W.heap.size (W.alloc (.cells #[.int .i64 CI, .int .i64 CS] 3)) (by simp) (by simp))
  have HO2 := hid_of (hO W.heap.size (W.alloc (.cells #[.int .i64 CI, .int .i64 CS] 3)).drew (by simp) (by simp))
  clear bV hV hO hs
  go_region_held3 (fun V => V.cell? ⟨w.heap.size, 0, none⟩ = some (.string X) ∧ V.cell? ⟨w.heap.size, 1, none⟩ = some (.int .i64 x) ∧ V.cell? ⟨w.heap.size + 1, 0, none⟩ = some (.string Y) ∧ V.cell? ⟨w.heap.size + 1, 1, none⟩ = some (.int .i64 y)) (first | exact ⟨p0, p1, p2, p3⟩ | exact ⟨q0, q1, q2, q3⟩) (first
    | (go_at_call 38; refine (hI _).mono ?_; rintro e w1 ⟨rfl, rfl⟩)
    | (go_at_call 39; refine (hS _).mono ?_; rintro e w1 ⟨rfl, rfl⟩)
    | (go_at_call 37; first | (refine HO.out.mono ?_; rintro e w1 ⟨rfl, rfl⟩) | (refine HO2.out.mono ?_; rintro e w1 ⟨rfl, rfl⟩)))
  go_wp2_with fail
  go_ret
  exact ⟨rfl, 1, #[.cells #[.string X, .int .i64 x] 35, .cells #[.string Y, .int .i64 y] 35, .cells #[.int .i64 CI, .int .i64 CS] 3], by rw [HW.out, alloc_eq_grow, alloc_eq_grow, alloc_eq_grow, grow_grow, grow_grow]; rfl⟩
theorem grow_below (w : World) (n : Nat) (os : Array Obj) : Below w.heap.size w (grow (w.drewN n) os) := by
  refine ⟨rfl, rfl, rfl, by rw [size_grow]; exact Nat.le_add_right _ _, fun k hk => ?_⟩
  show (w.heap ++ os)[k]? = _
  rw [Array.getElem?_append_left hk]
theorem compare_b (a b : Ent) (w : World) : Calls Tryz.prog 19 #[eV a, eV b] w fun e w' => e = .returned (.int .i64 (cmpE a b)) ∧ Below w.heap.size w w' := (compare_call a b w).mono fun e w' ⟨h1, n, os, h2⟩ => ⟨h1, by rw [h2]; exact grow_below w n os⟩
end Go.Proofs.YtighoelipihifabGreatDoor.Cmp
