/- Empty and Name, the program's and the document's. -/
import Derived.Test.YtdcnkdkhanmklaaRChk
namespace Go.Proofs.Ytdcnkdkhanmklaa.Names
open Go.RowKit Go.Maps
open Go.Proofs.Ytdcnkdkhanmklaa.SetMath
open Go.Proofs.Ytdcnkdkhanmklaa.ValueMath
open Go.Proofs.Ytdcnkdkhanmklaa.Base
open Go.Proofs.Ytdcnkdkhanmklaa.Vals
open Go.Proofs.Ytdcnkdkhanmklaa.May
set_option linter.unusedVariables false
set_option linter.unusedSimpArgs false
set_option maxHeartbeats 2000000 in
set_option maxRecDepth 100000 in
theorem vempty_raw (k : Int) (X : ByteArray) (aa ba ca : Option Addr) (an bn cn ac bc cc : Nat) (w : World) :
    Calls Try.prog 13 #[.agg #[.int .i64 k, .string X, .slice aa an ac, .slice ba bn bc, .slice ca cn cc]] w fun e w' => e = .returned (.bool (if k = 1 then false else if k = 2 ∨ k = 4 then decide (an = 0) else if k = 3 then decide (bn = 0) else if k = 5 then decide (cn = 0) else true)) ∧ Below w.heap.size w w' := by
  by_cases h1 : k = 1
  · rw [if_pos h1]
    subst h1
    go_enter Try.func13, Try.ntmps13
    go_wp2
    go_ret
    exact ⟨rfl, FRow.bnew w _⟩
  · rw [if_neg h1]
    have e1 : (k == 1) = false := by simpa using h1
    by_cases h2 : k = 2
    · rw [if_pos (Or.inl h2)]
      subst h2
      go_enter Try.func13, Try.ntmps13
      go_wp2
      go_ret
      exact ⟨ret_b (by rw [Bool.eq_iff_iff]; simp), FRow.bnew w _⟩
    · have e2 : (k == 2) = false := by simpa using h2
      by_cases h4 : k = 4
      · rw [if_pos (Or.inr h4)]
        subst h4
        go_enter Try.func13, Try.ntmps13
        go_wp2
        go_ret
        exact ⟨ret_b (by rw [Bool.eq_iff_iff]; simp), FRow.bnew w _⟩
      · rw [if_neg (by omega)]
        have e4 : (k == 4) = false := by simpa using h4
        by_cases h3 : k = 3
        · rw [if_pos h3]
          subst h3
          go_enter Try.func13, Try.ntmps13
          go_wp2
          go_ret
          exact ⟨ret_b (by rw [Bool.eq_iff_iff]; simp), FRow.bnew w _⟩
        · rw [if_neg h3]
          have e3 : (k == 3) = false := by simpa using h3
          by_cases h5 : k = 5
          · rw [if_pos h5]
            subst h5
            go_enter Try.func13, Try.ntmps13
            go_wp2
            go_ret
            exact ⟨ret_b (by rw [Bool.eq_iff_iff]; simp), FRow.bnew w _⟩
          · rw [if_neg h5]
            have e5 : (k == 5) = false := by simpa using h5
            go_enter Try.func13, Try.ntmps13
            go_wp2
            go_ret
            exact ⟨rfl, FRow.bnew w _⟩
def nameB (k : Int) : ByteArray := if k = 0 then ⟨#[110, 111, 110, 101]⟩ else if k = 1 then ⟨#[115, 116, 114, 105, 110, 103]⟩ else if k = 2 then ⟨#[108, 105, 115, 116]⟩ else if k = 3 then ⟨#[104, 97, 115, 104]⟩ else if k = 4 then ⟨#[115, 101, 116]⟩ else if k = 5 then ⟨#[122, 115, 101, 116]⟩ else ⟨#[]⟩
set_option maxHeartbeats 2000000 in
set_option maxRecDepth 100000 in
theorem vname_call (k : Int) (w : World) : Calls Try.prog 16 #[.int .i64 k] w fun e w' => e = .returned (.string (nameB k)) ∧ Below w.heap.size w w' := by
  unfold nameB
  by_cases h0 : k = 0
  · subst h0
    go_enter Try.func16, Try.ntmps16
    go_wp2
    go_ret
    exact ⟨rfl, Below.refl _ _⟩
  rw [if_neg h0]
  have e0 : (k == 0) = false := by simpa using h0
  by_cases h1 : k = 1
  · subst h1
    go_enter Try.func16, Try.ntmps16
    go_wp2
    go_ret
    exact ⟨rfl, Below.refl _ _⟩
  rw [if_neg h1]
  have e1 : (k == 1) = false := by simpa using h1
  by_cases h2 : k = 2
  · subst h2
    go_enter Try.func16, Try.ntmps16
    go_wp2
    go_ret
    exact ⟨rfl, Below.refl _ _⟩
  rw [if_neg h2]
  have e2 : (k == 2) = false := by simpa using h2
  by_cases h3 : k = 3
  · subst h3
    go_enter Try.func16, Try.ntmps16
    go_wp2
    go_ret
    exact ⟨rfl, Below.refl _ _⟩
  rw [if_neg h3]
  have e3 : (k == 3) = false := by simpa using h3
  by_cases h4 : k = 4
  · subst h4
    go_enter Try.func16, Try.ntmps16
    go_wp2
    go_ret
    exact ⟨rfl, Below.refl _ _⟩
  rw [if_neg h4]
  have e4 : (k == 4) = false := by simpa using h4
  by_cases h5 : k = 5
  · subst h5
    go_enter Try.func16, Try.ntmps16
    go_wp2
    go_ret
    exact ⟨rfl, Below.refl _ _⟩
  rw [if_neg h5]
  have e5 : (k == 5) = false := by simpa using h5
  go_enter Try.func16, Try.ntmps16
  go_wp2
  go_ret
  exact ⟨rfl, Below.refl _ _⟩
set_option maxHeartbeats 2000000 in
set_option maxRecDepth 100000 in
theorem rname_call (k : Int) (w : World) : Calls Try.prog 17 #[.int .i64 k] w fun e w' => e = .returned (.string (nameB k)) ∧ Below w.heap.size w w' := by
  unfold nameB
  have hn := heap_alloc_new w (.cells #[.string ⟨#[110, 111, 110, 101]⟩, .string ⟨#[115, 116, 114, 105, 110, 103]⟩, .string ⟨#[108, 105, 115, 116]⟩, .string ⟨#[104, 97, 115, 104]⟩, .string ⟨#[115, 101, 116]⟩, .string ⟨#[122, 115, 101, 116]⟩] 9)
  have c0 := Lib.cell_of_heap hn 0
  have c1 := Lib.cell_of_heap hn 1
  have c2 := Lib.cell_of_heap hn 2
  have c3 := Lib.cell_of_heap hn 3
  have c4 := Lib.cell_of_heap hn 4
  have c5 := Lib.cell_of_heap hn 5
  simp at c0 c1 c2 c3 c4 c5
  clear hn
  by_cases h0 : k = 0
  · subst h0
    go_enter Try.func17, Try.ntmps17
    go_wp2
    go_ret
    exact ⟨rfl, FRow.bnew w _⟩
  rw [if_neg h0]
  by_cases h1 : k = 1
  · subst h1
    go_enter Try.func17, Try.ntmps17
    go_wp2
    go_ret
    exact ⟨rfl, FRow.bnew w _⟩
  rw [if_neg h1]
  by_cases h2 : k = 2
  · subst h2
    go_enter Try.func17, Try.ntmps17
    go_wp2
    go_ret
    exact ⟨rfl, FRow.bnew w _⟩
  rw [if_neg h2]
  by_cases h3 : k = 3
  · subst h3
    go_enter Try.func17, Try.ntmps17
    go_wp2
    go_ret
    exact ⟨rfl, FRow.bnew w _⟩
  rw [if_neg h3]
  by_cases h4 : k = 4
  · subst h4
    go_enter Try.func17, Try.ntmps17
    go_wp2
    go_ret
    exact ⟨rfl, FRow.bnew w _⟩
  rw [if_neg h4]
  by_cases h5 : k = 5
  · subst h5
    go_enter Try.func17, Try.ntmps17
    go_wp2
    go_ret
    exact ⟨rfl, FRow.bnew w _⟩
  rw [if_neg h5]
  by_cases hlo : k < 0
  · go_enter Try.func17, Try.ntmps17
    go_wp2
    go_ret
    exact ⟨rfl, FRow.bnew w _⟩
  · have hhi : (6 : Int) ≤ k := by omega
    go_enter Try.func17, Try.ntmps17
    go_wp2
    go_ret
    exact ⟨rfl, FRow.bnew w _⟩
end Go.Proofs.Ytdcnkdkhanmklaa.Names
