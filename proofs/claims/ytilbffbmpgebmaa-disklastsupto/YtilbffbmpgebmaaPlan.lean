/- Plan: which faults may be. -/
import Derived.Test.YtilbffbmpgebmaaStep
namespace Go.Proofs.Ytilbffbmpgebmaa.Plan
open Go.RowKit Go.Maps
open Go.Proofs.Ytilbffbmpgebmaa.DiskMath
open Go.Proofs.Ytilbffbmpgebmaa.Base
open Go.Proofs.Ytilbffbmpgebmaa.Small
open Go.Proofs.Ytilbffbmpgebmaa.Find
set_option linter.unusedVariables false

def imp (f : Ft) : Bool := if f.kind = 1 ∨ f.kind = 3 then decide (f.n ≠ 0) else if f.kind = 2 then decide (f.n < 0) else true
def ftV (f : Ft) : Value := .agg #[.int .i64 f.step, .int .i64 f.kind, .int .i64 f.n]
def risesB : List Ft → Int → Bool
  | [], _ => true
  | f :: r, last => if f.step ≤ last then false else risesB r f.step
/- a slice of faults, to be read -/
def FtSl (w : World) (v : Value) (l : List Ft) : Prop := ∃ a c, v = .slice a l.length c ∧ (l = [] ∨ ∃ g o, a = some ⟨g, o, none⟩ ∧ ∀ k (h : k < l.length), w.cell? ⟨g, o + k * 3, none⟩ = some (.int .i64 (l[k]'h).step) ∧ w.cell? ⟨g, o + k * 3 + 1, none⟩ = some (.int .i64 (l[k]'h).kind) ∧ w.cell? ⟨g, o + k * 3 + 2, none⟩ = some (.int .i64 (l[k]'h).n))
set_option maxHeartbeats 1000000 in
set_option maxRecDepth 100000 in
theorem impossible_call (f : Ft) (w : World) : Calls Try.prog 54 #[.agg #[.int .i64 f.step, .int .i64 f.kind, .int .i64 f.n]] w fun e w' => e = .returned (.bool (imp f)) ∧ Below w.heap.size w w' := by
  obtain ⟨st, kd, n⟩ := f
  unfold imp
  dsimp only
  by_cases h1 : kd = 1
  · subst h1
    rw [if_pos (Or.inl rfl)]
    go_enter Try.func54, Try.ntmps54
    go_wp2_with fail
    go_ret
    exact ⟨by by_cases hn : n = 0 <;> simp [bne, hn], (Below.refl _ w).alloc (Nat.le_refl _) _⟩
  · by_cases h3 : kd = 3
    · subst h3
      rw [if_pos (Or.inr rfl)]
      go_enter Try.func54, Try.ntmps54
      go_wp2_with fail
      go_ret
      exact ⟨by by_cases hn : n = 0 <;> simp [bne, hn], (Below.refl _ w).alloc (Nat.le_refl _) _⟩
    · rw [if_neg (fun q => q.elim h1 h3)]
      have e1 : (kd == 1) = false := by rw [beq_eq_false_iff_ne]; exact h1
      have e3 : (kd == 3) = false := by rw [beq_eq_false_iff_ne]; exact h3
      by_cases h2 : kd = 2
      · subst h2
        rw [if_pos rfl]
        clear h1 h3 e1 e3
        go_enter Try.func54, Try.ntmps54
        go_wp2_with fail
        go_ret
        exact ⟨by simp, (Below.refl _ w).alloc (Nat.le_refl _) _⟩
      · rw [if_neg h2]
        have e2 : (kd == 2) = false := by rw [beq_eq_false_iff_ne]; exact h2
        clear h1 h2 h3
        go_enter Try.func54, Try.ntmps54
        go_wp2_with fail
        go_ret
        exact ⟨rfl, (Below.refl _ w).alloc (Nat.le_refl _) _⟩
theorem cell_on {w w' : World} (h : Below w.heap.size w w') {p : Addr} {v : Value} (hc : w.cell? p = some v) : w'.cell? p = some v := (World.cell?_of_block (h.block p.block (World.block_lt_of_cell? w p hc))).trans hc
set_option maxHeartbeats 1000000 in
set_option maxRecDepth 100000 in
theorem rise_call (v : Value) (l : List Ft) (last : Int) (w : World) (h : FtSl w v l) (hl : l.length ≤ 1048576) : Calls Try.prog 52 #[v, .int .i64 last] w fun e w' => e = .returned (.bool (risesB l last)) ∧ Below w.heap.size w w' := by
  obtain ⟨a, c, rfl, h⟩ := h
  have HF := hid_of h
  clear h
  go_enter Try.func52, Try.ntmps52
  go_wp2_with fail
  go_loopg [9, 1] l.length (fun g si sl wx => ∃ (k : Nat) (lst : Int), k ≤ l.length ∧ l.length ≤ k + g ∧ si = .int .i64 k ∧ sl = .int .i64 lst ∧ Hid (risesB l last = risesB (l.drop k) lst) ∧ Hid (Below w.heap.size w wx))
  case atStart => exact ⟨0, last, by omega, by omega, rfl, rfl, by rw [List.drop_zero]; exact hid_of rfl, Below.refl _ _⟩
  case round =>
    obtain ⟨k, lst, hk, hg, rfl, rfl, HR, HB⟩ := hrel
    by_cases hlt : k < l.length
    · obtain ⟨g', rfl⟩ : ∃ g', gk = g' + 1 := ⟨gk - 1, by omega⟩
      obtain ⟨gb, o, rfl, hc⟩ : ∃ g o, a = some ⟨g, o, none⟩ ∧ ∀ k (h : k < l.length), w.cell? ⟨g, o + k * 3, none⟩ = some (.int .i64 (l[k]'h).step) ∧ w.cell? ⟨g, o + k * 3 + 1, none⟩ = some (.int .i64 (l[k]'h).kind) ∧ w.cell? ⟨g, o + k * 3 + 2, none⟩ = some (.int .i64 (l[k]'h).n) := by
        rcases HF.out with h | h
        · subst h; exact absurd hlt (by simp)
        · exact h
      obtain ⟨x0, x1, x2⟩ := hc k hlt
      have c0 := cell_on HB.out x0
      have c1 := cell_on HB.out x1
      have c2 := cell_on HB.out x2
      have hd : l.drop k = l[k] :: l.drop (k + 1) := List.drop_eq_getElem_cons hlt
      have ew : IntKind.i64.wrap ((k : Int) + 1) = (k : Int) + 1 := IntWalk.i64_in _ (by omega)
      have gi : (k : Int) < (l.length : Int) := by omega
      obtain ⟨fx, hfx⟩ : ∃ fx, fx = l[k] := ⟨_, rfl⟩
      rw [← hfx] at c0 c1 c2 hd
      by_cases hs : fx.step ≤ lst
      · have HE : Hid (risesB l last = false) := by
          show _ = _
          rw [HR.out, hd]
          show (if fx.step ≤ lst then false else risesB (l.drop (k + 1)) fx.step) = false
          rw [if_pos hs]
        clear hc x0 x1 x2 hd hfx
        go_wp2_with fail
        go_ret
        rw [HE.out]
        exact ⟨rfl, HB.out.alloc HB.out.size _⟩
      · have HN : Hid (risesB l last = risesB (l.drop (k + 1)) fx.step) := by
          show _ = _
          rw [HR.out, hd]
          show (if fx.step ≤ lst then false else risesB (l.drop (k + 1)) fx.step) = _
          rw [if_neg hs]
        clear hc x0 x1 x2 hd hfx
        go_wp2_with fail
        go_roundg g'
        case measure => omega
        case rel => exact ⟨k + 1, fx.step, by omega, by omega, by rw [show ((k + 1 : Nat) : Int) = (k : Int) + 1 from by omega], rfl, HN, HB.out.alloc HB.out.size _⟩
    · obtain rfl : k = l.length := by omega
      have gi : ¬ (l.length : Int) < (l.length : Int) := by omega
      have HE : Hid (risesB l last = true) := by
        show _ = _
        rw [HR.out, List.drop_length]
        rfl
      go_wp2_with fail
      go_ret
      rw [HE.out]
      exact ⟨rfl, HB.out⟩
set_option maxHeartbeats 1000000 in
set_option maxRecDepth 100000 in
theorem index_call (v : Value) (l : List Ft) (w : World) (h : FtSl w v l) (hl : l.length ≤ 1048576) : Calls Try.prog 66 #[v, .func (.func 54) #[] #[]] w fun e w' => ∃ z : Int, e = .returned (.int .i64 z) ∧ decide (0 ≤ z) = l.any imp ∧ Below w.heap.size w w' := by
  obtain ⟨a, c, rfl, h⟩ := h
  have HF := hid_of h
  have HI := hid_of impossible_call
  clear h
  go_enter Try.func66, Try.ntmps66
  go_wp2_with fail
  go_loopg [8] l.length (fun g si wx => ∃ k : Nat, k ≤ l.length ∧ l.length ≤ k + g ∧ si = .int .i64 k ∧ Hid (l.any imp = (l.drop k).any imp) ∧ Hid (Below w.heap.size w wx))
  case atStart => exact ⟨0, by omega, by omega, rfl, by rw [List.drop_zero]; exact hid_of rfl, Below.refl _ _⟩
  case round =>
    obtain ⟨k, hk, hg, rfl, HR, HB⟩ := hrel
    by_cases hlt : k < l.length
    · obtain ⟨g', rfl⟩ : ∃ g', gk = g' + 1 := ⟨gk - 1, by omega⟩
      obtain ⟨gb, o, rfl, hc⟩ : ∃ g o, a = some ⟨g, o, none⟩ ∧ ∀ k (h : k < l.length), w.cell? ⟨g, o + k * 3, none⟩ = some (.int .i64 (l[k]'h).step) ∧ w.cell? ⟨g, o + k * 3 + 1, none⟩ = some (.int .i64 (l[k]'h).kind) ∧ w.cell? ⟨g, o + k * 3 + 2, none⟩ = some (.int .i64 (l[k]'h).n) := by
        rcases HF.out with h | h
        · subst h; exact absurd hlt (by simp)
        · exact h
      obtain ⟨x0, x1, x2⟩ := hc k hlt
      have c0 := cell_on HB.out x0
      have c1 := cell_on HB.out x1
      have c2 := cell_on HB.out x2
      have hd : l.drop k = l[k] :: l.drop (k + 1) := List.drop_eq_getElem_cons hlt
      have ew : IntKind.i64.wrap ((k : Int) + 1) = (k : Int) + 1 := IntWalk.i64_in _ (by omega)
      have gi : (k : Int) < (l.length : Int) := by omega
      obtain ⟨fx, hfx⟩ : ∃ fx, fx = l[k] := ⟨_, rfl⟩
      rw [← hfx] at c0 c1 c2 hd
      have HIx := hid_of (HI.out fx wr)
      cases hi : imp fx with
      | true =>
        rw [hi] at HIx
        have HE : Hid (l.any imp = true) := by
          show _ = _
          rw [HR.out, hd, List.any_cons, hi]
          rfl
        clear hc x0 x1 x2 hd hfx hi
        go_wp2_with fail
        refine HIx.out.mono ?_
        rintro e w1 ⟨rfl, b1⟩
        have B1 := hid_of (HB.out.trans (b1.mono HB.out.size))
        clear b1
        go_wp2_with fail
        go_ret
        exact ⟨(k : Int), rfl, by rw [HE.out]; exact decide_eq_true (by omega), B1.out⟩
      | false =>
        rw [hi] at HIx
        have HN : Hid (l.any imp = (l.drop (k + 1)).any imp) := by
          show _ = _
          rw [HR.out, hd, List.any_cons, hi]
          rfl
        clear hc x0 x1 x2 hd hfx hi
        go_wp2_with fail
        refine HIx.out.mono ?_
        rintro e w1 ⟨rfl, b1⟩
        have B1 := hid_of (HB.out.trans (b1.mono HB.out.size))
        clear b1
        go_wp2_with fail
        go_roundg g'
        case measure => omega
        case rel => exact ⟨k + 1, by omega, by omega, by rw [show ((k + 1 : Nat) : Int) = (k : Int) + 1 from by omega], HN, B1⟩
    · obtain rfl : k = l.length := by omega
      have gi : ¬ (l.length : Int) < (l.length : Int) := by omega
      have HE : Hid (l.any imp = false) := by
        show _ = _
        rw [HR.out, List.drop_length]
        rfl
      go_wp2_with fail
      go_ret
      exact ⟨-1, rfl, by rw [HE.out]; rfl, HB.out⟩
set_option maxHeartbeats 1000000 in
set_option maxRecDepth 100000 in
theorem contains_call (v : Value) (l : List Ft) (w : World) (h : FtSl w v l) (hl : l.length ≤ 1048576) : Calls Try.prog 53 #[v, .func (.func 54) #[] #[]] w fun e w' => e = .returned (.bool (l.any imp)) ∧ Below w.heap.size w w' := by
  have HI := hid_of (index_call v l w h hl)
  obtain ⟨a, c, rfl, h⟩ := h
  clear h
  go_enter Try.func53, Try.ntmps53
  go_wp2_with fail
  refine HI.out.mono ?_
  rintro e w1 ⟨z, rfl, hz, b1⟩
  have HZ := hid_of hz
  have B1 := hid_of b1
  clear hz b1
  go_wp2_with fail
  go_ret
  exact ⟨by rw [← HZ.out]; rfl, B1.out⟩
end Go.Proofs.Ytilbffbmpgebmaa.Plan
