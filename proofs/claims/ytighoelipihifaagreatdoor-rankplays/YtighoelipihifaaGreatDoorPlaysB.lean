/- The document's lets. -/
import Derived.Test.YtighoelipihifaaGreatDoorPlaysA
namespace Go.Proofs.YtighoelipihifaaGreatDoor.PlaysB
open Go.RowKit Go.Maps Go.Sort
open Go.Proofs.YtighoelipihifaaGreatDoor.MapMath
open Go.Proofs.YtighoelipihifaaGreatDoor.RankMath
open Go.Proofs.YtighoelipihifaaGreatDoor.RankMath2
open Go.Proofs.YtighoelipihifaaGreatDoor.RankMath3
open Go.Proofs.YtighoelipihifaaGreatDoor.Base
open Go.Proofs.YtighoelipihifaaGreatDoor.Cmp
open Go.Proofs.YtighoelipihifaaGreatDoor.PlaysA
set_option linter.unusedVariables false
set_option linter.unusedSimpArgs false
abbrev bW (b : Bnd) : Value := .agg #[.int .i64 b.inf, .bool b.opn, .int .i64 b.score, .string (mk b.name)]
def fits (b : Bnd) (c : Int) (lower : Bool) : Bool := if lower then fitL b c else fitU b c
theorem box_below (w : World) (o : Obj) : Below w.heap.size w (w.alloc o) := bnew w o
set_option maxHeartbeats 1000000 in
set_option maxRecDepth 100000 in
theorem lets_call (b : Bnd) (c : Int) (lower : Bool) (w : World) (hc : c = -1 ∨ c = 0 ∨ c = 1) (hb : b.inf ≤ 9223372036854775807) : Calls Tryz.prog 63 #[bW b, .int .i64 c, .bool lower] w fun e w' => e = .returned (.bool (fits b c lower)) ∧ Below w.heap.size w w' := by
  obtain ⟨inf, opn, sc, nm⟩ := b
  have HB := hid_of (bnew w (.cells #[.int .i64 inf, .bool opn, .int .i64 sc, .string (mk nm)] 39))
  have hb' : inf ≤ 9223372036854775807 := hb
  clear hb
  unfold bW
  dsimp only
  cases lower with
  | true =>
    by_cases h1 : inf < 0
    · have HE : Hid (fits ⟨inf, opn, sc, nm⟩ c true = true) := by unfold fits fitL; rw [if_pos rfl, if_pos h1]; exact hid_of rfl
      generalize mk nm = X at *
      go_enter Tryz.func63, Tryz.ntmps63
      go_wp2
      go_ret
      exact ⟨by rw [HE.out]; rfl, HB.out⟩
    · by_cases h2 : 0 < inf
      · have HE : Hid (fits ⟨inf, opn, sc, nm⟩ c true = false) := by unfold fits fitL; rw [if_pos rfl, if_neg h1, if_pos h2]; exact hid_of rfl
        generalize mk nm = X at *
        go_enter Tryz.func63, Tryz.ntmps63
        go_wp2
        go_ret
        exact ⟨by rw [HE.out]; rfl, HB.out⟩
      · obtain rfl : inf = 0 := by omega
        rcases hc with rfl | rfl | rfl
        · have HE : Hid (fits ⟨0, opn, sc, nm⟩ (-1) true = false) := by unfold fits fitL; exact hid_of (by simp)
          generalize mk nm = X at *
          go_enter Tryz.func63, Tryz.ntmps63
          go_wp2
          go_ret
          exact ⟨by rw [HE.out]; rfl, HB.out⟩
        · have HE : Hid (fits ⟨0, opn, sc, nm⟩ 0 true = !opn) := by unfold fits fitL; exact hid_of (by simp)
          generalize mk nm = X at *
          go_enter Tryz.func63, Tryz.ntmps63
          go_wp2
          go_ret
          exact ⟨by rw [HE.out]; rfl, HB.out⟩
        · have HE : Hid (fits ⟨0, opn, sc, nm⟩ 1 true = true) := by unfold fits fitL; exact hid_of (by simp)
          generalize mk nm = X at *
          go_enter Tryz.func63, Tryz.ntmps63
          go_wp2
          go_ret
          exact ⟨by rw [HE.out]; rfl, HB.out⟩
  | false =>
    by_cases h1 : inf < 0
    · have HE : Hid (fits ⟨inf, opn, sc, nm⟩ c false = false) := by unfold fits fitU; rw [if_neg (by decide), if_pos h1]; exact hid_of rfl
      have hm : max inf (-1) = -1 := by omega
      have hle : inf ≤ -1 := by omega
      have hw : IntKind.i64.wrap (-c) = -c := IntWalk.i64_in _ (by omega)
      generalize mk nm = X at *
      go_enter Tryz.func63, Tryz.ntmps63
      go_wp2
      go_ret
      exact ⟨by rw [HE.out]; rfl, HB.out⟩
    · by_cases h2 : 0 < inf
      · have HE : Hid (fits ⟨inf, opn, sc, nm⟩ c false = true) := by unfold fits fitU; rw [if_neg (by decide), if_neg h1, if_pos h2]; exact hid_of rfl
        have hm : max inf (-1) = inf := by omega
        have hle : ¬ inf ≤ -1 := by omega
        have hw : IntKind.i64.wrap (-c) = -c := IntWalk.i64_in _ (by omega)
        have hw2 : IntKind.i64.wrap (-inf) = -inf := IntWalk.i64_in _ (by omega)
        have hn : -inf < 0 := by omega
        generalize mk nm = X at *
        go_enter Tryz.func63, Tryz.ntmps63
        go_wp2
        go_ret
        exact ⟨by rw [HE.out]; rfl, HB.out⟩
      · obtain rfl : inf = 0 := by omega
        rcases hc with rfl | rfl | rfl
        · have HE : Hid (fits ⟨0, opn, sc, nm⟩ (-1) false = true) := by unfold fits fitU; exact hid_of (by simp)
          generalize mk nm = X at *
          go_enter Tryz.func63, Tryz.ntmps63
          go_wp2
          go_ret
          exact ⟨by rw [HE.out]; rfl, HB.out⟩
        · have HE : Hid (fits ⟨0, opn, sc, nm⟩ 0 false = !opn) := by unfold fits fitU; exact hid_of (by simp)
          generalize mk nm = X at *
          go_enter Tryz.func63, Tryz.ntmps63
          go_wp2
          go_ret
          exact ⟨by rw [HE.out]; rfl, HB.out⟩
        · have HE : Hid (fits ⟨0, opn, sc, nm⟩ 1 false = false) := by unfold fits fitU; exact hid_of (by simp)
          generalize mk nm = X at *
          go_enter Tryz.func63, Tryz.ntmps63
          go_wp2
          go_ret
          exact ⟨by rw [HE.out]; rfl, HB.out⟩
theorem cmpI_in (a b : Int) : cmpI a b = -1 ∨ cmpI a b = 0 ∨ cmpI a b = 1 := by
  unfold cmpI
  split
  · exact .inl rfl
  · split
    · exact .inr (.inr rfl)
    · exact .inr (.inl rfl)
theorem cmpB_in (a b : Bs) : cmpB a b = -1 ∨ cmpB a b = 0 ∨ cmpB a b = 1 := by
  unfold cmpB
  split
  · exact .inl rfl
  · split
    · exact .inr (.inr rfl)
    · exact .inr (.inl rfl)
end Go.Proofs.YtighoelipihifaaGreatDoor.PlaysB
