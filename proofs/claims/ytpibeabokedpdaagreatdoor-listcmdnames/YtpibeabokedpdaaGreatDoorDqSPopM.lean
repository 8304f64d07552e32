/- slices.Reverse over numbers, PopFront, PopBack. place, At, Put, piece, Slice, Trim. piece, Slice, Trim. One element appended to a new row. isItself over numbers. -/
import Derived.Test.YtpibeabokedpdaaGreatDoorDqSLayM
import Derived.Test.YtpibeabokedpdaaGreatDoorDqBaseM
import Derived.Recover
import Derived.Defers
section
namespace Go.Proofs.YtpibeabokedpdaaGreatDoor.DqSPop
open Go.RowKit
open Go.Proofs.YtpibeabokedpdaaGreatDoor.DqSBase
open Go.Proofs.YtpibeabokedpdaaGreatDoor.DqBase (Fr Gr ptr hid_of lt_of set_at set_ne size_set row_ne size_row add_off bel_drewN ca ca_some ca_zero cell_lt)
open Go.Proofs.YtpibeabokedpdaaGreatDoor.DqSHeld
open Go.Proofs.YtpibeabokedpdaaGreatDoor.DqSLay
open Go.Proofs.YtpibeabokedpdaaGreatDoor.DqSFree
open Go.Proofs.YtpibeabokedpdaaGreatDoor.DqSPush
open Go.Proofs.YtpibeabokedpdaaGreatDoor.DqSKeep
set_option linter.unusedVariables false
set_option linter.unusedSimpArgs false
/-- the first i and the last i of l have changed places -/
structure Half (l : List El) (i : Nat) (ys : List El) (n : Nat) : Prop where
  len : ys.length = n
  out : ∀ t, t < l.length → (t < i ∨ l.length - 1 - i < t) → ys[t]? = l[l.length - 1 - t]?
  mid : ∀ t, i ≤ t → t + i < l.length → ys[t]? = l[t]?
theorem Half.start {l xs : List El} (h : xs.take l.length = l) : Half l 0 xs xs.length := by
  refine ⟨rfl, fun t ht q => by omega, fun t _ ht => ?_⟩
  rw [← h, List.getElem?_take, if_pos (by omega)]
theorem Half.step {l ys : List El} {i n : Nat} (h : Half l i ys n) (hi : 2 * i + 1 < l.length) (hn : l.length ≤ n) : Half l (i + 1) ((ys.set i (ys[l.length - 1 - i]?.getD Z)).set (l.length - 1 - i) (ys[i]?.getD Z)) n := by
  have hl := h.len
  have e1 := h.mid i (Nat.le_refl _) (by omega)
  have e2 := h.mid (l.length - 1 - i) (by omega) (by omega)
  have g1 : ∃ x, l[i]? = some x := ⟨_, List.getElem?_eq_getElem (by omega)⟩
  have g2 : ∃ x, l[l.length - 1 - i]? = some x := ⟨_, List.getElem?_eq_getElem (by omega)⟩
  obtain ⟨x1, g1⟩ := g1
  obtain ⟨x2, g2⟩ := g2
  rw [e1, e2, g1, g2]
  refine ⟨by simp [hl], fun t ht q => ?_, fun t ht q => ?_⟩
  · simp only [List.getElem?_set, List.length_set, Option.getD_some]
    by_cases q1 : l.length - 1 - i = t
    · subst q1
      rw [if_pos rfl, if_pos (by omega), show l.length - 1 - (l.length - 1 - i) = i by omega, g1]
    · rw [if_neg q1]
      by_cases q2 : i = t
      · subst q2
        rw [if_pos rfl, if_pos (by omega), g2]
      · rw [if_neg q2]
        exact h.out t ht (by omega)
  · simp only [List.getElem?_set, List.length_set]
    rw [if_neg (by omega), if_neg (by omega)]
    exact h.mid t (by omega) (by omega)
theorem Half.fin {l ys : List El} {i n : Nat} (h : Half l i ys n) (hi : l.length ≤ 2 * i + 1) (hn : l.length ≤ n) : ys.take l.length = l.reverse := by
  apply List.ext_getElem?
  intro t
  rw [List.getElem?_take]
  by_cases q : t < l.length
  · rw [if_pos q, List.getElem?_reverse q]
    by_cases q1 : t < i ∨ l.length - 1 - i < t
    · exact h.out t q q1
    · rw [h.mid t (by omega) (by omega)]
      congr 1
      omega
  · rw [if_neg q, List.getElem?_eq_none (by simp; omega)]
set_option maxHeartbeats 2000000 in
set_option maxRecDepth 100000 in
theorem reverse_call {w : World} {g c : Nat} {xs l : List El} (hr : RowIs w g xs) (hx : xs.length = c) (hl : l.length ≤ c) (ht : xs.take l.length = l) (hb : l.length ≤ 35184372088832) :
    Calls Tryz.prog 183 #[.slice (some ⟨g, 0, none⟩) l.length c] w fun e w' => e = .returned (.tuple #[]) ∧ (∃ ys, RowIs w' g ys ∧ ys.length = c ∧ ys.take l.length = l.reverse) ∧ Fr (fun k => k = g) w w' := by
  have R0 := hid_of (And.intro hr (And.intro (Half.start ht) (Fr.refl (fun k => k = g) w)))
  rw [hx] at R0
  obtain ⟨L, HL⟩ : ∃ L, Hid (L = l.length) := ⟨_, hid_of rfl⟩
  have R1 := hid_of hl
  rw [← HL.out] at hb hl ⊢
  clear hr hx ht
  go_enter Tryz.func183, Tryz.ntmps183
  go_wp2_with fail
  go_loopg [2, 3] L (fun gh s2 s3 wx => ∃ (i : Nat) (ys : List El), 2 * i ≤ L + 1 ∧ L ≤ i + gh ∧ s2 = .int .i64 (i : Int) ∧ s3 = .int .i64 ((L : Int) - 1 - i) ∧ Hid (RowIs wx g ys ∧ Half l i ys c ∧ Fr (fun k => k = g) w wx))
  case atStart => exact ⟨0, xs, by omega, by omega, rfl, by simp, R0⟩
  case round =>
    obtain ⟨i, ys, hi, hg, rfl, rfl, R⟩ := hrel
    by_cases hlt : 2 * i + 1 < L
    · obtain ⟨g', rfl⟩ : ∃ g', gk = g' + 1 := ⟨gk - 1, by omega⟩
      obtain ⟨hr, hh, fr⟩ := R.out
      obtain ⟨j, hj⟩ : ∃ j, L = j + 1 + i := ⟨L - 1 - i, by omega⟩
      have hjl : l.length - 1 - i = j := by rw [← HL.out]; omega
      have jI : (L : Int) - 1 - (i : Int) = (j : Int) := by omega
      rw [jI]
      have hij : i < j := by omega
      have hjL : j < L := by omega
      have hyl := hh.len
      have ci : wr.cell? ⟨g, i, none⟩ = some (V (ys[i]?.getD Z)) := by rw [hr.cell, List.getElem?_eq_getElem (by omega)]; rfl
      have cj : wr.cell? ⟨g, j, none⟩ = some (V (ys[j]?.getD Z)) := by rw [hr.cell, List.getElem?_eq_getElem (by omega)]; rfl
      have zi : wr.frozen? ⟨g, i, none⟩ = false := hr.frozen i
      have zj : wr.frozen? ⟨g, j, none⟩ = false := hr.frozen j
      have hst := hh.step (by rw [← HL.out]; exact hlt) (by rw [← HL.out]; exact hl)
      rw [hjl] at hst
      have HK := hid_of (And.intro ((hr.set i (ys[j]?.getD Z)).set j (ys[i]?.getD Z)) (And.intro hst ((fr.trans (Fr.set (F := Gr (fun k => k = g) w) (i := i) (.inl rfl) (V (ys[j]?.getD Z)))).trans (Fr.set (F := Gr (fun k => k = g) w) (i := j) (.inl rfl) (V (ys[i]?.getD Z))))))
      have HJ := hid_of hj
      generalize ys[i]?.getD Z = x at *
      generalize ys[j]?.getD Z = y at *
      have d1 : (i : Int) < (j : Int) := by omega
      clear R hr hh fr hst hj hjl jI hyl
      go_wp2_with fail
      go_region
      all_goals
        go_wp2_with fail
        go_roundg g'
        case measure => omega
        case rel => exact ⟨i + 1, _, by omega, by omega, by simp, by have := HJ.out; congr 1; omega, ⟨HK.out.1.drewN 1, HK.out.2.1, HK.out.2.2.drew⟩⟩
    · have d1 : ¬ (i : Int) < (L : Int) - 1 - i := by omega
      have R2 := hid_of R.out
      go_wp2_with fail
      go_end0
      exact ⟨rfl, ⟨ys, R2.out.1, R2.out.2.1.len, by rw [HL.out]; exact R2.out.2.1.fin (by rw [← HL.out]; omega) R1.out⟩, R2.out.2.2⟩
theorem reverse_nil (w : World) : Calls Tryz.prog 183 #[.slice none 0 0] w fun e w' => e = .returned (.tuple #[]) ∧ w' = w := by
  go_enter Tryz.func183, Tryz.ntmps183
  go_wp2_with fail
  go_loopg [2, 3] 0 (fun gh s2 s3 wx => s2 = .int .i64 0 ∧ s3 = .int .i64 (-1) ∧ wx = w)
  case atStart => exact ⟨rfl, rfl, rfl⟩
  case round =>
    obtain ⟨rfl, rfl, rfl⟩ := hrel
    go_wp2_with fail
    go_end0
    exact ⟨rfl, rfl⟩
theorem reverse_new {B : Nat} {w : World} {v : Value} {l : List El} (h : NR B w v l) (hb : l.length ≤ 35184372088832) :
    Calls Tryz.prog 183 #[v] w fun e w' => e = .returned (.tuple #[]) ∧ NR B w' v l.reverse ∧ Fr (fun k => B ≤ k) w w' := by
  rcases h with ⟨rfl, rfl⟩ | ⟨g, c, xs, rfl, hB, hr, hx, hl, ht⟩
  · refine (reverse_nil w).mono ?_
    rintro e w' ⟨rfl, rfl⟩
    exact ⟨rfl, .inl ⟨rfl, rfl⟩, Fr.refl _ _⟩
  · refine (reverse_call hr hx hl ht hb).mono ?_
    rintro e w' ⟨rfl, ⟨ys, h1, h2, h3⟩, fr⟩
    refine ⟨rfl, .inr ⟨g, c, ys, by rw [List.length_reverse], hB, h1, h2, by rw [List.length_reverse]; exact hl, by rw [List.length_reverse]; exact h3⟩, fr.mono fun k _ e => by rw [e]; exact hB⟩
theorem NR.drewN {B : Nat} {w : World} {v : Value} {l : List El} (h : NR B w v l) (m : Nat) : NR B (w.drewN m) v l := h.keep fun _ _ _ => rfl
set_option maxHeartbeats 1000000 in
set_option maxRecDepth 100000 in
theorem popFront_call {F : Nat → Prop} {b : Nat} {l : List El} {w : World} (h : DQ F b l w) (x : Int) (hb : l.length * 16 ≤ 140737488355328) :
    Calls Tryz.prog 159 #[ptr b, .int .i64 x] w fun e w' => ∃ v, e = .returned v ∧ NR w.heap.size w' v (l.take (clamp x l.length)) ∧ DQ (Gr F w) b (l.drop (clamp x l.length)) w' ∧ Fr F w w' := by
  have HQ := hid_of h.low
  have HN := hid_of (fun m => len_call (h.drewN m))
  have HW := hid_of (fun W => within_call x l.length W)
  have HL0 := hid_of (len_call h)
  have hk := clamp_le x l.length
  obtain ⟨k, HK⟩ : ∃ k, Hid (k = clamp x l.length) := ⟨_, hid_of rfl⟩
  rw [← HK.out] at HW hk ⊢
  obtain ⟨a, n, c, f, xs, h⟩ := h
  have HH := hid_of (fun m => held_call (DK.drewN h m))
  have hcut := cut_hi (ca a c f) l.length (c - f) k (k : Int) rfl (by have := h.fit; have := h.nc; omega)
  have hlk : (l.take k).length = k := by rw [List.length_take]; omega
  have HF := hid_of (fun m => fresh_call (w := w.drewN m) (G := F) (v := .slice (ca a c f) (l.take k).length (c - f)) ⟨_, _, rfl, by have := h.fit; have := h.nc; omega, (DK.drewN h m).rd.take k⟩ (by omega))
  rw [hlk] at HF
  have hlim : l.length ≤ 35184372088832 := by have := h.fit; have := h.lim; omega
  clear h hlk hb
  go_enter Tryz.func159, Tryz.ntmps159
  go_wp2_with fail
  refine HL0.out.mono ?_
  rintro e w1 ⟨rfl, m1, rfl⟩
  go_wp2_with fail
  refine (HW.out _).mono ?_
  rintro e w2 ⟨rfl, rfl⟩
  go_wp2_with fail
  refine (HH.out m1).mono ?_
  rintro e w3 ⟨rfl, m3, rfl⟩
  go_wp2_with fail
  refine (HF.out (m1 + m3)).mono ?_
  rintro e w4 ⟨v, rfl, hn, hbl⟩
  have hb4 : Below w.heap.size w w4 := (bel_drewN w (m1 + m3)).trans hbl
  have q4 := HQ.out.below hb4
  have HL4 := hid_of (len_call q4)
  have HKp := hid_of (fun m => keep_call (q4.drewN m) k l.length (k : Int) (l.length : Int) rfl rfl hk (Nat.le_refl _))
  have E4 := hid_of (And.intro (show NR w.heap.size w4 v (l.take k) from hn) hb4)
  clear hn hbl hb4 q4
  go_wp2_with fail
  refine HL4.out.mono ?_
  rintro e w5 ⟨rfl, m5, rfl⟩
  go_wp2_with fail
  refine (HKp.out m5).mono ?_
  rintro e w6 ⟨rfl, q6, f6⟩
  have E6 := hid_of (And.intro q6 f6)
  clear q6 f6
  go_wp2_with fail
  go_ret
  obtain ⟨q6, f6⟩ := E6.out
  obtain ⟨n4, b4⟩ := E4.out
  rw [List.take_of_length_le (by simp)] at q6
  refine ⟨v, rfl, (NR.drewN n4 m5).keep fun j hj hB => f6.block j hj fun e => ?_, q6.mono fun j hj e => ?_, ?_⟩
  · exact absurd e.2 (by omega)
  · rcases e with e | e
    · exact .inl e.1
    · exact .inr (Nat.le_trans b4.size e)
  · exact (Fr.of_below b4).trans ⟨f6.os, f6.tape, f6.output, f6.size, fun j hj hn => f6.block j hj fun e => hn (.inl e.1)⟩
set_option maxHeartbeats 1000000 in
set_option maxRecDepth 100000 in
theorem popBack_call {F : Nat → Prop} {b : Nat} {l : List El} {w : World} (h : DQ F b l w) (x : Int) (hb : l.length * 16 ≤ 140737488355328) :
    Calls Tryz.prog 160 #[ptr b, .int .i64 x] w fun e w' => ∃ v, e = .returned v ∧ NR w.heap.size w' v (l.drop (l.length - clamp x l.length)).reverse ∧ DQ (Gr F w) b (l.take (l.length - clamp x l.length)) w' ∧ Fr F w w' := by
  have HQ := hid_of h.low
  have HN := hid_of (fun m => len_call (h.drewN m))
  have HW := hid_of (fun W => within_call x l.length W)
  have HL0 := hid_of (len_call h)
  have hk := clamp_le x l.length
  obtain ⟨k, HK⟩ : ∃ k, Hid (k = clamp x l.length) := ⟨_, hid_of rfl⟩
  rw [← HK.out] at HW hk ⊢
  obtain ⟨d, HD⟩ : ∃ d, Hid (d = l.length - k) := ⟨_, hid_of rfl⟩
  rw [← HD.out]
  have hd : d ≤ l.length := by rw [HD.out]; omega
  have eD : (l.length : Int) - (k : Int) = (d : Int) := by rw [HD.out]; omega
  obtain ⟨a, n, c, f, xs, h⟩ := h
  have HH := hid_of (fun m => held_call (DK.drewN h m))
  have hcut := cut_lo (ca a c f) l.length (c - f) d (d : Int) rfl hd
  have hld : (l.drop d).length = l.length - d := by rw [List.length_drop]
  have HF := hid_of (fun m => fresh_call (w := w.drewN m) (G := F) (v := .slice (ca (ca a c f) (c - f) d) (l.drop d).length (c - f - d)) ⟨_, _, rfl, by have := h.fit; have := h.nc; omega, (DK.drewN h m).rd.drop (by have := h.fit; have := h.nc; omega) d⟩ (by omega))
  rw [hld] at HF
  have hlim : l.length ≤ 35184372088832 := by have := h.fit; have := h.lim; omega
  clear h hld hb
  go_enter Tryz.func160, Tryz.ntmps160
  go_wp2_with fail
  refine HL0.out.mono ?_
  rintro e w1 ⟨rfl, m1, rfl⟩
  go_wp2_with fail
  refine (HN.out m1).mono ?_
  rintro e w1 ⟨rfl, m2, rfl⟩
  go_wp2_with fail
  refine (HW.out _).mono ?_
  rintro e w2 ⟨rfl, rfl⟩
  go_wp2_with fail
  refine (HH.out (m1 + m2)).mono ?_
  rintro e w3 ⟨rfl, m3, rfl⟩
  go_wp2_with fail
  refine (HF.out (m1 + m2 + m3)).mono ?_
  rintro e w4 ⟨v, rfl, hn, hbl⟩
  have hb4 : Below w.heap.size w w4 := (bel_drewN w (m1 + m2 + m3)).trans hbl
  have HR := hid_of (reverse_new hn (by rw [List.length_drop]; omega))
  have E4 := hid_of (And.intro hb4 (HQ.out.below hb4))
  clear hn hbl hb4
  go_wp2_with fail
  refine HR.out.mono ?_
  rintro e w5 ⟨rfl, n5, f5⟩
  have q5 : DQ (fun k => F k ∧ k < w.heap.size) b l w5 := E4.out.2.keep fun j hj hF => f5.block j hj fun e => absurd hF.2 (by have : w.heap.size ≤ j := e; omega)
  have HKp := hid_of (keep_call q5 0 d 0 (d : Int) rfl rfl (Nat.zero_le _) hd)
  have E5 := hid_of (And.intro (show NR w.heap.size w5 v (l.drop d).reverse from n5) f5)
  clear n5 f5 q5
  go_wp2_with fail
  refine HKp.out.mono ?_
  rintro e w6 ⟨rfl, q6, f6⟩
  have E6 := hid_of (And.intro q6 f6)
  clear q6 f6
  go_wp2_with fail
  go_ret
  obtain ⟨q6, f6⟩ := E6.out
  obtain ⟨n5, f5⟩ := E5.out
  obtain ⟨b4, _⟩ := E4.out
  rw [List.drop_zero, Nat.sub_zero] at q6
  have s5 : w.heap.size ≤ w5.heap.size := Nat.le_trans b4.size f5.size
  refine ⟨v, rfl, n5.keep fun j hj hB => f6.block j hj fun e => ?_, q6.mono fun j hj e => ?_, ?_⟩
  · exact absurd e.2 (by omega)
  · rcases e with e | e
    · exact .inl e.1
    · exact .inr (Nat.le_trans s5 e)
  · exact ((Fr.of_below b4).trans ⟨f5.os, f5.tape, f5.output, f5.size, fun j hj hn => f5.block j hj fun e => hn (.inr e)⟩).trans ⟨f6.os, f6.tape, f6.output, f6.size, fun j hj hn => f6.block j hj fun e => hn (.inl e.1)⟩
end Go.Proofs.YtpibeabokedpdaaGreatDoor.DqSPop
end
section
namespace Go.Proofs.YtpibeabokedpdaaGreatDoor.DqSPlace
open Go.RowKit
open Go.Proofs.YtpibeabokedpdaaGreatDoor.DqSBase
open Go.Proofs.YtpibeabokedpdaaGreatDoor.DqBase (Fr Gr ptr hid_of lt_of set_at set_ne size_set row_ne size_row add_off bel_drewN ca ca_some ca_zero cell_lt)
open Go.Proofs.YtpibeabokedpdaaGreatDoor.DqSHeld
open Go.Proofs.YtpibeabokedpdaaGreatDoor.DqSLay
open Go.Proofs.YtpibeabokedpdaaGreatDoor.DqSFree
open Go.Proofs.YtpibeabokedpdaaGreatDoor.DqSPush
open Go.Proofs.YtpibeabokedpdaaGreatDoor.DqSKeep
open Go.Proofs.YtpibeabokedpdaaGreatDoor.DqSPop
set_option linter.unusedVariables false
set_option linter.unusedSimpArgs false
/-- the place that a number means -/
def idx (n : Nat) (i : Int) : Option Nat := if i < 0 then (if i + n < 0 then none else some (i + n).toNat) else if i < n then some i.toNat else none
theorem idx_lt {n : Nat} {i : Int} {k : Nat} (h : idx n i = some k) : k < n := by
  unfold idx at h
  split at h
  · split at h
    · cases h
    · injection h; omega
  · split at h
    · injection h; omega
    · cases h
theorem lim_of {F : Nat → Prop} {b : Nat} {l : List El} {w : World} (h : DQ F b l w) : l.length ≤ 35184372088832 := by
  obtain ⟨a, n, c, f, xs, h⟩ := h
  have := h.fit; have := h.lim; omega
set_option maxRecDepth 100000 in
theorem place_call {F : Nat → Prop} {b : Nat} {l : List El} {w : World} (h : DQ F b l w) (i : Int) (hi : -9223372036854775808 ≤ i) :
    Calls Tryz.prog 119 #[ptr b, .int .i64 i] w fun e w' => (∃ j, e = .returned (.tuple #[.int .i64 j, .bool (idx l.length i).isSome]) ∧ ∀ k, idx l.length i = some k → j = (k : Int)) ∧ ∃ m, w' = w.drewN m := by
  have HN := hid_of (fun m => len_call (h.drewN m))
  have HL0 := hid_of (len_call h)
  have hl := lim_of h
  obtain ⟨L, HL⟩ : ∃ L, Hid (L = l.length) := ⟨_, hid_of rfl⟩
  rw [← HL.out] at HN HL0 hl ⊢
  clear h
  by_cases h0 : i < 0
  · have e0 : IntKind.i64.wrap (i + (L : Int)) = i + (L : Int) := IntWalk.i64_in _ (by omega)
    by_cases h1 : i + (L : Int) < 0
    · have hI : idx L i = none := by unfold idx; rw [if_pos h0, if_pos h1]
      have HI := hid_of hI
      clear hI
      have h2 : ¬ 0 ≤ i + (L : Int) := by omega
      go_enter Tryz.func119, Tryz.ntmps119
      go_wp2_with fail
      refine HL0.out.mono ?_
      rintro e w1 ⟨rfl, m1, rfl⟩
      go_wp2_with fail
      go_ret2
      refine ⟨⟨_, by rw [HI.out]; rfl, fun k hk => by rw [HI.out] at hk; cases hk⟩, m1, rfl⟩
    · have hI : idx L i = some (i + L).toNat := by unfold idx; rw [if_pos h0, if_neg h1]
      have HI := hid_of hI
      clear hI
      have h2 : 0 ≤ i + (L : Int) := by omega
      have h3 : i + (L : Int) < (L : Int) := by omega
      go_enter Tryz.func119, Tryz.ntmps119
      go_wp2_with fail
      refine HL0.out.mono ?_
      rintro e w1 ⟨rfl, m1, rfl⟩
      go_wp2_with fail
      refine (HN.out m1).mono ?_
      rintro e w1 ⟨rfl, m2, rfl⟩
      go_wp2_with fail
      go_ret2
      refine ⟨⟨i + L, by rw [HI.out]; rfl, fun k hk => by rw [HI.out] at hk; injection hk; omega⟩, m1 + m2, rfl⟩
  · have h2 : 0 ≤ i := by omega
    by_cases h1 : i < (L : Int)
    · have hI : idx L i = some i.toNat := by unfold idx; rw [if_neg h0, if_pos h1]
      have HI := hid_of hI
      clear hI
      go_enter Tryz.func119, Tryz.ntmps119
      go_wp2_with fail
      refine HL0.out.mono ?_
      rintro e w1 ⟨rfl, m1, rfl⟩
      go_wp2_with fail
      go_ret2
      refine ⟨⟨i, by rw [HI.out]; rfl, fun k hk => by rw [HI.out] at hk; injection hk; omega⟩, m1, rfl⟩
    · have d1 : decide (i < (L : Int)) = false := by simpa using h1
      have hI : idx L i = none := by unfold idx; rw [if_neg h0, if_neg h1]
      have HI := hid_of hI
      clear hI
      go_enter Tryz.func119, Tryz.ntmps119
      go_wp2_with fail
      refine HL0.out.mono ?_
      rintro e w1 ⟨rfl, m1, rfl⟩
      go_wp2_with fail
      go_ret2
      refine ⟨⟨i, by rw [HI.out]; rfl, fun k hk => by rw [HI.out] at hk; cases hk⟩, m1, rfl⟩
/-- what stands at a place -/
def atS (l : List El) (i : Int) : El × Bool := match idx l.length i with
  | some k => (l[k]?.getD Z, true)
  | none => (Z, false)
set_option maxRecDepth 100000 in
theorem at_call {F : Nat → Prop} {b : Nat} {l : List El} {w : World} (h : DQ F b l w) (i : Int) (hi : -9223372036854775808 ≤ i) :
    Calls Tryz.prog 67 #[ptr b, .int .i64 i] w fun e w' => e = .returned (.tuple #[V (atS l i).1, .bool (atS l i).2]) ∧ Below w.heap.size w w' := by
  have HP := hid_of (place_call h i hi)
  have hl := lim_of h
  obtain ⟨a, n, c, f, xs, h⟩ := h
  have HH := hid_of (fun m => held_call (DK.drewN h m))
  unfold atS
  cases hI : idx l.length i with
  | none =>
    rw [hI] at HP
    clear h hI
    have hz3 : ∀ w, (zeroValue 9).run Tryz.prog w = .ok (.string ⟨#[]⟩) w := zero9
    dsimp only [Option.isSome_none] at HP ⊢
    go_enter Tryz.func67, Tryz.ntmps67
    go_wp2_with fail
    refine HP.out.mono ?_
    rintro e w1 ⟨⟨j, rfl, hj⟩, m1, rfl⟩
    clear hj
    have hnew : ((w.drewN m1).alloc (.cells #[.string ⟨#[]⟩] 9)).cell? ⟨w.heap.size, 0, none⟩ = some (.string ⟨#[]⟩) := Lib.cell_of_heap (heap_alloc_new (w.drewN m1) _) 0
    go_wp2_with fail
    go_ret2
    exact ⟨rfl, (bel_drewN w m1).trans (show Below (w.drewN m1).heap.size (w.drewN m1) _ from (Below.refl _ _).alloc (Nat.le_refl _) _)⟩
  | some k =>
    have hk := idx_lt hI
    rw [hI] at HP
    have HR := hid_of h.rd
    have hp : 0 < l.length := by omega
    obtain ⟨g, o, hca, _, hc⟩ : ∃ g o, ca a c f = some ⟨g, o, none⟩ ∧ F g ∧ ∀ j x, l[j]? = some x → w.cell? ⟨g, o + j, none⟩ = some (V x) := by
      rcases h.rd with e | q
      · rw [e] at hp; simp at hp
      · exact q
    have cx := hc k _ (List.getElem?_eq_getElem hk)
    dsimp only [Option.isSome_some] at HP ⊢
    rw [List.getElem?_eq_getElem hk, Option.getD_some]
    rw [hca] at HH
    generalize l[k] = x at *
    clear h hI hc hca HR
    go_enter Tryz.func67, Tryz.ntmps67
    go_wp2_with fail
    refine HP.out.mono ?_
    rintro e w1 ⟨⟨j, rfl, hj⟩, m1, rfl⟩
    obtain rfl := hj k rfl
    clear hj
    go_wp2_with fail
    refine (HH.out m1).mono ?_
    rintro e w2 ⟨rfl, m2, rfl⟩
    go_wp2_with fail
    go_ret2
    exact ⟨rfl, bel_drewN w (m1 + m2)⟩
/-- the list with v at a place -/
def putS (l : List El) (i : Int) (v : El) : List El := match idx l.length i with
  | some k => l.set k v
  | none => l
theorem put_is {xs l : List El} {f k : Nat} {v : El} (h : (xs.drop f).take l.length = l) (hk : k < l.length) : ((xs.set (f + k) v).drop f).take (l.set k v).length = l.set k v := by
  rw [List.length_set, List.drop_set, if_neg (by omega), show f + k - f = k by omega, List.take_set, h]
end Go.Proofs.YtpibeabokedpdaaGreatDoor.DqSPlace
end
section
namespace Go.Proofs.YtpibeabokedpdaaGreatDoor.DqSPiece
open Go.RowKit
open Go.Proofs.YtpibeabokedpdaaGreatDoor.DqSBase
open Go.Proofs.YtpibeabokedpdaaGreatDoor.DqBase (Fr Gr ptr hid_of lt_of set_at set_ne size_set row_ne size_row add_off bel_drewN ca ca_some ca_zero cell_lt)
open Go.Proofs.YtpibeabokedpdaaGreatDoor.DqSHeld
open Go.Proofs.YtpibeabokedpdaaGreatDoor.DqSLay
open Go.Proofs.YtpibeabokedpdaaGreatDoor.DqSFree
open Go.Proofs.YtpibeabokedpdaaGreatDoor.DqSPush
open Go.Proofs.YtpibeabokedpdaaGreatDoor.DqSKeep
open Go.Proofs.YtpibeabokedpdaaGreatDoor.DqSPop
open Go.Proofs.YtpibeabokedpdaaGreatDoor.DqSPlace
set_option linter.unusedVariables false
set_option linter.unusedSimpArgs false
/-- a number below 0 is counted from the end -/
def ends (n : Nat) (x : Int) : Int := if x < 0 then x + n else x
/-- where a piece begins, and where it has ended -/
def pcF (n : Nat) (x y : Int) : Nat := if max (ends n x) 0 ≤ min (ends n y) (n - 1) then (max (ends n x) 0).toNat else 0
def pcT (n : Nat) (x y : Int) : Nat := if max (ends n x) 0 ≤ min (ends n y) (n - 1) then (min (ends n y) (n - 1) + 1).toNat else 0
theorem pc_le (n : Nat) (x y : Int) : pcF n x y ≤ pcT n x y ∧ pcT n x y ≤ n := by
  unfold pcF pcT
  split <;> omega
def pieceS (l : List El) (x y : Int) : List El := (l.drop (pcF l.length x y)).take (pcT l.length x y - pcF l.length x y)
theorem ret_ii {a b c d : Int} (h : a = c) (k : b = d) : Ending.returned (.tuple #[.int .i64 a, .int .i64 b]) = .returned (.tuple #[.int .i64 c, .int .i64 d]) := by rw [h, k]
set_option maxHeartbeats 1000000 in
set_option maxRecDepth 100000 in
theorem piece_call {F : Nat → Prop} {b : Nat} {l : List El} {w : World} (h : DQ F b l w) (x y : Int) (hx : -9223372036854775808 ≤ x) (hy : -9223372036854775808 ≤ y) (hx2 : x ≤ 9223372036854775807) (hy2 : y ≤ 9223372036854775807) :
    Calls Tryz.prog 132 #[ptr b, .int .i64 x, .int .i64 y] w fun e w' => e = .returned (.tuple #[.int .i64 (pcF l.length x y : Int), .int .i64 (pcT l.length x y : Int)]) ∧ ∃ m, w' = w.drewN m := by
  have HN := hid_of (fun m => len_call (h.drewN m))
  have HL0 := hid_of (len_call h)
  have hl := lim_of h
  obtain ⟨L, HL⟩ : ∃ L, Hid (L = l.length) := ⟨_, hid_of rfl⟩
  rw [← HL.out] at HN HL0 hl ⊢
  clear h
  have HF := hid_of (show ((pcF L x y : Nat) : Int) = if max (ends L x) 0 ≤ min (ends L y) (L - 1) then max (ends L x) 0 else 0 by unfold pcF; split <;> omega)
  have HT := hid_of (show ((pcT L x y : Nat) : Int) = if max (ends L x) 0 ≤ min (ends L y) (L - 1) then min (ends L y) (L - 1) + 1 else 0 by unfold pcT; split <;> omega)
  obtain ⟨X, HX⟩ : ∃ X, Hid (X = ends L x) := ⟨_, hid_of rfl⟩
  obtain ⟨Y, HY⟩ : ∃ Y, Hid (Y = ends L y) := ⟨_, hid_of rfl⟩
  rw [← HX.out, ← HY.out] at HF HT
  obtain ⟨A, HA⟩ : ∃ A : Int, Hid (A = ((pcF L x y : Nat) : Int)) := ⟨_, hid_of rfl⟩
  obtain ⟨B, HB⟩ : ∃ B : Int, Hid (B = ((pcT L x y : Nat) : Int)) := ⟨_, hid_of rfl⟩
  rw [← HA.out] at HF ⊢
  rw [← HB.out] at HT ⊢
  have bX : X ≤ 9223372036854775807 ∧ -9223372036854775808 ≤ X := by rw [HX.out]; unfold ends; split <;> omega
  have bY : Y ≤ 9223372036854775807 ∧ -9223372036854775808 ≤ Y := by rw [HY.out]; unfold ends; split <;> omega
  obtain ⟨bX1, bX2⟩ := bX
  obtain ⟨bY1, bY2⟩ := bY
  have wx : x < 0 → IntKind.i64.wrap (x + (L : Int)) = x + (L : Int) := fun _ => IntWalk.i64_in _ (by omega)
  have wy : y < 0 → IntKind.i64.wrap (y + (L : Int)) = y + (L : Int) := fun _ => IntWalk.i64_in _ (by omega)
  clear HA HB
  by_cases h1 : x < 0
  · have eX : x + (L : Int) = X := by rw [HX.out]; unfold ends; rw [if_pos h1]
    have w1 := wx h1
    clear wx
    rw [eX] at w1
    by_cases h2 : y < 0
    · have eY : y + (L : Int) = Y := by rw [HY.out]; unfold ends; rw [if_pos h2]
      have w2 := wy h2
      clear wy
      rw [eY] at w2
      go_enter Tryz.func132, Tryz.ntmps132
      go_wp2_with fail
      refine HL0.out.mono ?_
      rintro e w1 ⟨rfl, m1, rfl⟩
      go_wp2_with fail
      refine (HN.out m1).mono ?_
      rintro e w1 ⟨rfl, m2, rfl⟩
      go_wp2_with fail
      all_goals
        refine (HN.out (m1 + m2)).mono ?_
        rintro e w1 ⟨rfl, m3, rfl⟩
        go_wp2_with fail
      all_goals
        go_ret2
        exact ⟨ret_ii (by rw [HF.out]; split <;> omega) (by rw [HT.out]; split <;> omega), m1 + m2 + m3, rfl⟩
    · have eY : y = Y := by rw [HY.out]; unfold ends; rw [if_neg h2]
      subst eY
      clear wy
      go_enter Tryz.func132, Tryz.ntmps132
      go_wp2_with fail
      refine HL0.out.mono ?_
      rintro e w1 ⟨rfl, m1, rfl⟩
      go_wp2_with fail
      all_goals
        refine (HN.out m1).mono ?_
        rintro e w1 ⟨rfl, m3, rfl⟩
        go_wp2_with fail
      all_goals
        go_ret2
        exact ⟨ret_ii (by rw [HF.out]; split <;> omega) (by rw [HT.out]; split <;> omega), m1 + m3, rfl⟩
  · have eX : x = X := by rw [HX.out]; unfold ends; rw [if_neg h1]
    subst eX
    clear wx
    by_cases h2 : y < 0
    · have eY : y + (L : Int) = Y := by rw [HY.out]; unfold ends; rw [if_pos h2]
      have w2 := wy h2
      clear wy
      rw [eY] at w2
      go_enter Tryz.func132, Tryz.ntmps132
      go_wp2_with fail
      refine HL0.out.mono ?_
      rintro e w1 ⟨rfl, m1, rfl⟩
      go_wp2_with fail
      all_goals
        refine (HN.out m1).mono ?_
        rintro e w1 ⟨rfl, m3, rfl⟩
        go_wp2_with fail
      all_goals
        go_ret2
        exact ⟨ret_ii (by rw [HF.out]; split <;> omega) (by rw [HT.out]; split <;> omega), m1 + m3, rfl⟩
    · have eY : y = Y := by rw [HY.out]; unfold ends; rw [if_neg h2]
      subst eY
      clear wy
      go_enter Tryz.func132, Tryz.ntmps132
      go_wp2_with fail
      all_goals
        refine HL0.out.mono ?_
        rintro e w1 ⟨rfl, m3, rfl⟩
        go_wp2_with fail
      all_goals
        go_ret2
        exact ⟨ret_ii (by rw [HF.out]; split <;> omega) (by rw [HT.out]; split <;> omega), m3, rfl⟩
set_option maxHeartbeats 1000000 in
set_option maxRecDepth 100000 in
theorem slice_call {F : Nat → Prop} {b : Nat} {l : List El} {w : World} (h : DQ F b l w) (x y : Int) (hx : -9223372036854775808 ≤ x) (hy : -9223372036854775808 ≤ y) (hx2 : x ≤ 9223372036854775807) (hy2 : y ≤ 9223372036854775807) (hb : l.length * 16 ≤ 140737488355328) :
    Calls Tryz.prog 85 #[ptr b, .int .i64 x, .int .i64 y] w fun e w' => ∃ v, e = .returned v ∧ NR w.heap.size w' v (pieceS l x y) ∧ Below w.heap.size w w' := by
  have HP := hid_of (piece_call h x y hx hy hx2 hy2)
  obtain ⟨hpq, hq⟩ := pc_le l.length x y
  unfold pieceS
  generalize pcF l.length x y = p at *
  generalize pcT l.length x y = q at *
  obtain ⟨a, n, c, f, xs, h⟩ := h
  have h1 := h.fit
  have h2 := h.nc
  have HH := hid_of (fun m => held_call (DK.drewN h m))
  have hcut := cut_any (ca a c f) l.length (c - f) p q (p : Int) (q : Int) rfl rfl hpq (by omega)
  have hlen : ((l.drop p).take (q - p)).length = q - p := by simp; omega
  have HF := hid_of (fun m => fresh_call (w := w.drewN m) (G := F) (v := .slice (ca (ca a c f) (c - f) p) ((l.drop p).take (q - p)).length (c - f - p)) ⟨_, _, rfl, by rw [hlen]; omega, ((DK.drewN h m).rd.drop (by omega) p).take _⟩ (by rw [hlen]; omega))
  rw [hlen] at HF
  clear h h1 h2 hlen hb
  go_enter Tryz.func85, Tryz.ntmps85
  go_wp2_with fail
  refine HP.out.mono ?_
  rintro e w1 ⟨rfl, m1, rfl⟩
  go_wp2_with fail
  refine (HH.out m1).mono ?_
  rintro e w1 ⟨rfl, m2, rfl⟩
  go_wp2_with fail
  refine (HF.out (m1 + m2)).mono ?_
  rintro e w4 ⟨v, rfl, hn, hbl⟩
  have E4 := hid_of (And.intro hn hbl)
  clear hn hbl
  go_wp2_with fail
  go_ret
  exact ⟨v, rfl, E4.out.1, (bel_drewN w (m1 + m2)).trans E4.out.2⟩
end Go.Proofs.YtpibeabokedpdaaGreatDoor.DqSPiece
end
section
namespace Go.Proofs.YtpibeabokedpdaaGreatDoor.DqSApp
open Go.RowKit
open Go.Proofs.YtpibeabokedpdaaGreatDoor.DqSBase
open Go.Proofs.YtpibeabokedpdaaGreatDoor.DqBase (Fr Gr ptr hid_of lt_of set_at set_ne size_set row_ne size_row add_off bel_drewN ca ca_some ca_zero cell_lt)
open Go.Proofs.YtpibeabokedpdaaGreatDoor.DqSHeld
open Go.Proofs.YtpibeabokedpdaaGreatDoor.DqSLay
set_option linter.unusedVariables false
set_option linter.unusedSimpArgs false
theorem take_lay {xs l : List El} {c : Nat} (h : xs.take l.length = l) (m : List El) (hx : l.length + m.length ≤ xs.length) : (lay xs l.length m).take (l ++ m).length = l ++ m := by
  unfold lay
  rw [h, List.take_left']
  rfl
/-- a list appended to a new row -/
theorem app_any {G : Nat → Prop} {B : Nat} {w : World} {v : Value} {l m : List El} {a : Option Addr} {c : Nat} (h : NR B w v l) (hm : Rd G w a m) (hb : (l.length + m.length) * 16 ≤ 140737488355328) (hB : B ≤ w.heap.size) (ty : TypeId) :
    ∃ v' w', (Builtin.append_ #[22, 22] ty #[v, .slice a m.length c]).run Tryz.prog w = .ok v' w' ∧ NR B w' v' (l ++ m) ∧ Below B w w' := by
  obtain ⟨i, hi, hz0, hz1, hz2⟩ := info_parts info9
  by_cases hl : m = []
  · subst hl
    refine ⟨v, w, ?_, by simpa using h, Below.refl _ _⟩
    have hld : ∀ x, (loadCells x 0).run Tryz.prog w = .ok #[] w := fun x => by simpa using run_loadCells_list (P := Tryz.prog) w x [] (by simp)
    rcases h with ⟨rfl, rfl⟩ | ⟨g, cp, xs, rfl, hBg, hr, hx, hlc, ht⟩
    · cases a <;> simp [Builtin.append_, run_underlying Tryz.underlying22, Builtin.lenOf, Builtin.firstCells, sizeOf, typeInfo, hi, hz1, hld]
    · cases a <;> simp [Builtin.append_, run_underlying Tryz.underlying22, Builtin.lenOf, Builtin.firstCells, sizeOf, typeInfo, hi, hz1, hld, hlc, storeCells]
  · have hp : 0 < m.length := List.length_pos_iff.2 hl
    have hs : Src Tryz.prog i.size 22 (.slice a m.length c) m.length (m.map V) w := by rw [hz1]; exact rd_src hm hl c
    by_cases hroom : ∃ g cp xs, v = .slice (some ⟨g, 0, none⟩) l.length cp ∧ B ≤ g ∧ RowIs w g xs ∧ xs.length = cp ∧ xs.take l.length = l ∧ l.length + m.length ≤ cp
    · obtain ⟨g, cp, xs, rfl, hBg, hr, hx, ht, hrm⟩ := hroom
      have hst := run_storeCells_at Tryz.prog g l.length 9 (m.map V) 0 (cells xs) w hr (by rw [List.length_map, cells_size]; omega) (fun v hv => by
        obtain ⟨x, _, rfl⟩ := List.mem_map.1 hv
        rfl)
      simp only [Nat.add_zero] at hst
      have hcl := hs.cells
      rw [hz1] at hcl
      refine ⟨.slice (some ⟨g, 0, none⟩) (l.length + m.length) cp, _, ?_, .inr ⟨g, cp, _, by rw [List.length_append], hBg, hr.lay l.length m, by rw [lay_len (by omega)]; exact hx, by rw [List.length_append]; exact hrm, take_lay (c := cp) ht m (by omega)⟩, ?_⟩
      · simp [Builtin.append_, run_underlying Tryz.underlying22, Builtin.lenOf, sizeOf, typeInfo, hi, hz1, hrm, hcl, Addr.add_lit]
        simp at hst
        rw [hst]
        simp
      · exact (Fr.row (F := fun k => k = g) rfl _).below (Nat.le_trans hB (Nat.le_refl _)) fun k e => by rw [e]; exact hBg
    · have hg : ∃ ba cp, v = .slice ba l.length cp ∧ l.length ≤ cp ∧ cp < l.length + m.length ∧ (Builtin.firstCells i.size l.length (.slice ba l.length cp)).run Tryz.prog w.drew = .ok (l.map V).toArray w.drew := by
        rcases h with ⟨rfl, rfl⟩ | ⟨g, cp, xs, rfl, hBg, hr, hx, hlc, ht⟩
        · exact ⟨none, 0, rfl, Nat.le_refl _, by simpa using hp, by simp [Builtin.firstCells]⟩
        · refine ⟨_, cp, rfl, hlc, ?_, ?_⟩
          · rcases Nat.lt_or_ge cp (l.length + m.length) with q | q
            · exact q
            · exact absurd ⟨g, cp, xs, rfl, hBg, hr, hx, ht, q⟩ hroom
          · refine run_firstCells_some (P := Tryz.prog) w.drew i.size l.length ⟨g, 0, none⟩ l.length cp (l.map V) (by simp [hz1]) ?_
            intro j y hj
            rw [List.getElem?_map] at hj
            obtain ⟨x, hx1, rfl⟩ := Option.map_eq_some_iff.1 hj
            rw [add_off, Nat.zero_add]
            show w.cell? ⟨g, j, none⟩ = _
            rw [hr.cell]
            rw [← ht, List.getElem?_take] at hx1
            split at hx1
            · rw [hx1]; rfl
            · cases hx1
      obtain ⟨ba, cp, rfl, hlc, hlt, hold⟩ := hg
      have hr := run_append_grow_src (P := Tryz.prog) w 22 22 ty 9 i (V Z) Tryz.underlying22 hi hz0 ba l.length cp (l.map V) hold (.slice a m.length c) m.length (m.map V) hs hlt (by omega) (growslice_fits hlt (by rw [hz2]; exact hb))
      have hge := grownCap_ge w (l.length + m.length) cp 9
      refine ⟨_, _, hr, .inr ⟨w.heap.size, grownCap w (l.length + m.length) cp 9, (l ++ m) ++ List.replicate (grownCap w (l.length + m.length) cp 9 - (l.length + m.length)) Z, by rw [List.length_append], hB, ?_, by simp; omega, by rw [List.length_append]; exact hge, List.take_left' rfl⟩, (Below.refl _ w).drew.alloc hB _⟩
      unfold RowIs
      rw [show w.heap.size = w.drew.heap.size from rfl, heap_alloc_new w.drew, zeros_cells]
      simp [cells]
/-- append(l, x) -/
theorem app_one {B : Nat} {w : World} {v : Value} {l : List El} (x : El) (h : NR B w v l) (hb : (l.length + 1) * 16 ≤ 140737488355328) (hB : B ≤ w.heap.size) (ty : TypeId) :
    ∃ v' w', (Builtin.append_ #[22, 22] ty #[v, .slice (some ⟨w.heap.size, 0, none⟩) 1 1]).run Tryz.prog (w.alloc (.cells #[V x] 9)) = .ok v' w' ∧ NR B w' v' (l ++ [x]) ∧ Below B w w' := by
  have b1 := (Below.refl w.heap.size w).alloc (Nat.le_refl _) (.cells #[V x] 9)
  have hm : Rd (fun _ => True) (w.alloc (.cells #[V x] 9)) (some ⟨w.heap.size, 0, none⟩) [x] := by
    refine .inr ⟨w.heap.size, 0, rfl, trivial, fun j y hj => ?_⟩
    rw [Lib.cell_of_heap (heap_alloc_new w _)]
    cases j with
    | zero => simp at hj; subst hj; rfl
    | succ j => simp at hj
  obtain ⟨v', w', h1, h2, h3⟩ := app_any (c := 1) (h.below b1) hm (by simpa using hb) (Nat.le_trans hB b1.size) ty
  exact ⟨v', w', h1, h2, (b1.mono hB).trans h3⟩
end Go.Proofs.YtpibeabokedpdaaGreatDoor.DqSApp
end
section
namespace Go.Proofs.YtpibeabokedpdaaGreatDoor.DqSSelf
open Go.RowKit
open Go.Proofs.YtpibeabokedpdaaGreatDoor.DqSBase
open Go.Proofs.YtpibeabokedpdaaGreatDoor.DqBase (Fr Gr ptr hid_of lt_of set_at set_ne size_set row_ne size_row add_off bel_drewN ca ca_some ca_zero cell_lt)
set_option linter.unusedVariables false
set_option linter.unusedSimpArgs false
theorem idle (w : World) : CallsD Tryz.prog 165 #[] .returning w fun e u' w' => e = .returned (.tuple #[]) ∧ u' = .returning ∧ w' = w := by
  refine callsD_of_wpS Tryz.func165 rfl fun c₀ cs hu => ?_
  apply wpS_region
  simp [wpOpsS, go_sem, recoverD, hu, Tryz.ntmps165, Exit.thenS]
  cases c₀
  simp_all [bodyPostS, results, Tryz.results165]
theorem self_call (x : El) (w : World) : Calls Tryz.prog 131 #[V x] w fun e w' => e = .returned (.bool true) ∧ w' = w := by
  have hmf : ∀ (fn : Fn) (first cap : Array Value) (w : World), (Instr.makeFunc fn first cap).run Tryz.prog w = .ok (.func fn first cap) w := fun _ _ _ _ => rfl
  go_enter_defers Tryz.func131, Tryz.ntmps131
  go_wp2
  refine leaves_cons (f := 165) (args := #[]) (by simp) (by simp [go_sem]) ?_
  refine (idle _).mono ?_
  rintro e u' w'' ⟨rfl, rfl, rfl⟩
  simp [Leaves, settle, results, Tryz.results131, go_sem]
end Go.Proofs.YtpibeabokedpdaaGreatDoor.DqSSelf
end
