/- place, At, Put, piece, Slice, Trim. -/
import Derived.Test.YtdmjfmojacnbeaaPop
namespace Go.Proofs.Ytdmjfmojacnbeaa.Place
open Go.RowKit
open Go.Proofs.Ytdmjfmojacnbeaa.Base
open Go.Proofs.Ytdmjfmojacnbeaa.Held
open Go.Proofs.Ytdmjfmojacnbeaa.Lay
open Go.Proofs.Ytdmjfmojacnbeaa.Free
open Go.Proofs.Ytdmjfmojacnbeaa.Push
open Go.Proofs.Ytdmjfmojacnbeaa.Keep
open Go.Proofs.Ytdmjfmojacnbeaa.Pop
set_option linter.unusedVariables false
set_option linter.unusedSimpArgs false
/-- the place that a number means -/
def idx (n : Nat) (i : Int) : Option Nat := if i < 0 then (if i + n < 0 then none else some (i + n).toNat) else if i < n then some i.toNat else none
theorem idx_lt {n : Nat} {i : Int} {k : Nat} (h : idx n i = some k) : k < n := by
  unfold idx at h
  split at h
  · split at h
    · cases h
    · injection h; omega
  · split at h
    · injection h; omega
    · cases h
theorem lim_of {F : Nat → Prop} {b : Nat} {l : List El} {w : World} (h : DQ F b l w) : l.length ≤ 35184372088832 := by
  obtain ⟨a, n, c, f, xs, h⟩ := h
  have := h.fit; have := h.lim; omega
set_option maxRecDepth 100000 in
theorem place_call {F : Nat → Prop} {b : Nat} {l : List El} {w : World} (h : DQ F b l w) (i : Int) (hi : -9223372036854775808 ≤ i) :
    Calls Try.prog 70 #[ptr b, .int .i64 i] w fun e w' => (∃ j, e = .returned (.tuple #[.int .i64 j, .bool (idx l.length i).isSome]) ∧ ∀ k, idx l.length i = some k → j = (k : Int)) ∧ ∃ m, w' = w.drewN m := by
  have HN := hid_of (fun m => len_call (h.drewN m))
  have HL0 := hid_of (len_call h)
  have hl := lim_of h
  obtain ⟨L, HL⟩ : ∃ L, Hid (L = l.length) := ⟨_, hid_of rfl⟩
  rw [← HL.out] at HN HL0 hl ⊢
  clear h
  by_cases h0 : i < 0
  · have e0 : IntKind.i64.wrap (i + (L : Int)) = i + (L : Int) := IntWalk.i64_in _ (by omega)
    by_cases h1 : i + (L : Int) < 0
    · have hI : idx L i = none := by unfold idx; rw [if_pos h0, if_pos h1]
      have HI := hid_of hI
      clear hI
      have h2 : ¬ 0 ≤ i + (L : Int) := by omega
      go_enter Try.func70, Try.ntmps70
      go_wp2_with fail
      refine HL0.out.mono ?_
      rintro e w1 ⟨rfl, m1, rfl⟩
      go_wp2_with fail
      go_ret2
      refine ⟨⟨_, by rw [HI.out]; rfl, fun k hk => by rw [HI.out] at hk; cases hk⟩, m1, rfl⟩
    · have hI : idx L i = some (i + L).toNat := by unfold idx; rw [if_pos h0, if_neg h1]
      have HI := hid_of hI
      clear hI
      have h2 : 0 ≤ i + (L : Int) := by omega
      have h3 : i + (L : Int) < (L : Int) := by omega
      go_enter Try.func70, Try.ntmps70
      go_wp2_with fail
      refine HL0.out.mono ?_
      rintro e w1 ⟨rfl, m1, rfl⟩
      go_wp2_with fail
      refine (HN.out m1).mono ?_
      rintro e w1 ⟨rfl, m2, rfl⟩
      go_wp2_with fail
      go_ret2
      refine ⟨⟨i + L, by rw [HI.out]; rfl, fun k hk => by rw [HI.out] at hk; injection hk; omega⟩, m1 + m2, rfl⟩
  · have h2 : 0 ≤ i := by omega
    by_cases h1 : i < (L : Int)
    · have hI : idx L i = some i.toNat := by unfold idx; rw [if_neg h0, if_pos h1]
      have HI := hid_of hI
      clear hI
      go_enter Try.func70, Try.ntmps70
      go_wp2_with fail
      refine HL0.out.mono ?_
      rintro e w1 ⟨rfl, m1, rfl⟩
      go_wp2_with fail
      go_ret2
      refine ⟨⟨i, by rw [HI.out]; rfl, fun k hk => by rw [HI.out] at hk; injection hk; omega⟩, m1, rfl⟩
    · have d1 : decide (i < (L : Int)) = false := by simpa using h1
      have hI : idx L i = none := by unfold idx; rw [if_neg h0, if_neg h1]
      have HI := hid_of hI
      clear hI
      go_enter Try.func70, Try.ntmps70
      go_wp2_with fail
      refine HL0.out.mono ?_
      rintro e w1 ⟨rfl, m1, rfl⟩
      go_wp2_with fail
      go_ret2
      refine ⟨⟨i, by rw [HI.out]; rfl, fun k hk => by rw [HI.out] at hk; cases hk⟩, m1, rfl⟩
/-- what stands at a place -/
def atS (l : List El) (i : Int) : El × Bool := match idx l.length i with
  | some k => (l[k]?.getD Z, true)
  | none => (Z, false)
set_option maxRecDepth 100000 in
theorem at_call {F : Nat → Prop} {b : Nat} {l : List El} {w : World} (h : DQ F b l w) (i : Int) (hi : -9223372036854775808 ≤ i) :
    Calls Try.prog 41 #[ptr b, .int .i64 i] w fun e w' => e = .returned (.tuple #[V (atS l i).1, .bool (atS l i).2]) ∧ Below w.heap.size w w' := by
  have HP := hid_of (place_call h i hi)
  have hl := lim_of h
  obtain ⟨a, n, c, f, xs, h⟩ := h
  have HH := hid_of (fun m => held_call (DK.drewN h m))
  unfold atS
  cases hI : idx l.length i with
  | none =>
    rw [hI] at HP
    clear h hI
    have hz3 : ∀ w, (zeroValue 3).run Try.prog w = .ok (.int .i64 0) w := zero3
    dsimp only [Option.isSome_none] at HP ⊢
    go_enter Try.func41, Try.ntmps41
    go_wp2_with fail
    refine HP.out.mono ?_
    rintro e w1 ⟨⟨j, rfl, hj⟩, m1, rfl⟩
    clear hj
    have hnew : ((w.drewN m1).alloc (.cells #[.int .i64 0] 3)).cell? ⟨w.heap.size, 0, none⟩ = some (.int .i64 0) := Lib.cell_of_heap (heap_alloc_new (w.drewN m1) _) 0
    go_wp2_with fail
    go_ret2
    exact ⟨rfl, (bel_drewN w m1).trans (show Below (w.drewN m1).heap.size (w.drewN m1) _ from (Below.refl _ _).alloc (Nat.le_refl _) _)⟩
  | some k =>
    have hk := idx_lt hI
    rw [hI] at HP
    have HR := hid_of h.rd
    have hp : 0 < l.length := by omega
    obtain ⟨g, o, hca, _, hc⟩ : ∃ g o, ca a c f = some ⟨g, o, none⟩ ∧ F g ∧ ∀ j x, l[j]? = some x → w.cell? ⟨g, o + j, none⟩ = some (V x) := by
      rcases h.rd with e | q
      · rw [e] at hp; simp at hp
      · exact q
    have cx := hc k _ (List.getElem?_eq_getElem hk)
    dsimp only [Option.isSome_some] at HP ⊢
    rw [List.getElem?_eq_getElem hk, Option.getD_some]
    rw [hca] at HH
    generalize l[k] = x at *
    clear h hI hc hca HR
    go_enter Try.func41, Try.ntmps41
    go_wp2_with fail
    refine HP.out.mono ?_
    rintro e w1 ⟨⟨j, rfl, hj⟩, m1, rfl⟩
    obtain rfl := hj k rfl
    clear hj
    go_wp2_with fail
    refine (HH.out m1).mono ?_
    rintro e w2 ⟨rfl, m2, rfl⟩
    go_wp2_with fail
    go_ret2
    exact ⟨rfl, bel_drewN w (m1 + m2)⟩
/-- the list with v at a place -/
def putS (l : List El) (i : Int) (v : El) : List El := match idx l.length i with
  | some k => l.set k v
  | none => l
theorem put_is {xs l : List El} {f k : Nat} {v : El} (h : (xs.drop f).take l.length = l) (hk : k < l.length) : ((xs.set (f + k) v).drop f).take (l.set k v).length = l.set k v := by
  rw [List.length_set, List.drop_set, if_neg (by omega), show f + k - f = k by omega, List.take_set, h]
set_option maxRecDepth 100000 in
theorem put_call {F : Nat → Prop} {b : Nat} {l : List El} {w : World} (h : DQ F b l w) (i : Int) (hi : -9223372036854775808 ≤ i) (v : El) :
    Calls Try.prog 49 #[ptr b, .int .i64 i, V v] w fun e w' => e = .returned (.bool (idx l.length i).isSome) ∧ DQ F b (putS l i v) w' ∧ Fr F w w' := by
  have HP := hid_of (place_call h i hi)
  have HQ := hid_of h
  have hl := lim_of h
  obtain ⟨a, n, c, f, xs, h⟩ := h
  have HH := hid_of (fun m => held_call (DK.drewN h m))
  unfold putS
  cases hI : idx l.length i with
  | none =>
    rw [hI] at HP
    clear h hI
    go_enter Try.func49, Try.ntmps49
    go_wp2_with fail
    refine HP.out.mono ?_
    rintro e w1 ⟨⟨j, rfl, hj⟩, m1, rfl⟩
    clear hj
    go_wp2_with fail
    go_ret
    exact ⟨rfl, HQ.out.drewN m1, (Fr.refl _ _).drewN m1⟩
  | some k =>
    have hk := idx_lt hI
    rw [hI] at HP
    have h1 := h.fit
    have h2 := h.nc
    obtain ⟨g, rfl, hF, hyc, hr⟩ : ∃ g, a = some ⟨g, 0, none⟩ ∧ F g ∧ xs.length = c ∧ RowIs w g xs := by
      rcases h.row with ⟨_, e⟩ | q
      · omega
      · exact q
    rw [ca_some g 0 c f (by omega)] at HH
    simp only [Nat.zero_add] at HH
    have cx : w.cell? ⟨g, f + k, none⟩ = some (V xs[f + k]) := by rw [hr.cell, List.getElem?_eq_getElem (by omega)]; rfl
    have zx : w.frozen? ⟨g, f + k, none⟩ = false := hr.frozen _
    have HK := hid_of (fun m => (show DK F b (some ⟨g, 0, none⟩) n c f (xs.set (f + k) v) (l.set k v) ((w.drewN m).setCell ⟨g, f + k, none⟩ (V v)) by
      have nb := h.ne hr
      refine ⟨?_, h.own, by rw [List.length_set]; exact h1, h2, h.lim, .inr ⟨g, rfl, hF, by rw [List.length_set]; exact hyc, (hr.drewN m).set _ _⟩, put_is h.is hk⟩
      rw [set_ne nb, List.length_set]
      exact h.blk))
    have HF := hid_of hF
    generalize xs[f + k] = y at *
    clear h hI hr h1 h2 hyc
    go_enter Try.func49, Try.ntmps49
    go_wp2_with fail
    refine HP.out.mono ?_
    rintro e w1 ⟨⟨j, rfl, hj⟩, m1, rfl⟩
    obtain rfl := hj k rfl
    clear hj
    go_wp2_with fail
    refine (HH.out m1).mono ?_
    rintro e w2 ⟨rfl, m2, rfl⟩
    go_wp2_with fail
    go_ret
    exact ⟨rfl, ⟨_, _, _, _, _, HK.out (m1 + m2)⟩, ((Fr.refl F w).drewN (m1 + m2)).trans (Fr.set (.inl HF.out) _)⟩
end Go.Proofs.Ytdmjfmojacnbeaa.Place
