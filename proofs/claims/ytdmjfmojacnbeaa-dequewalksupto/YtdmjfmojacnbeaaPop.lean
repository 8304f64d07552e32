/- slices.Reverse over numbers, PopFront, PopBack. -/
import Derived.Test.YtdmjfmojacnbeaaKeep
namespace Go.Proofs.Ytdmjfmojacnbeaa.Pop
open Go.RowKit
open Go.Proofs.Ytdmjfmojacnbeaa.Base
open Go.Proofs.Ytdmjfmojacnbeaa.Held
open Go.Proofs.Ytdmjfmojacnbeaa.Lay
open Go.Proofs.Ytdmjfmojacnbeaa.Free
open Go.Proofs.Ytdmjfmojacnbeaa.Push
open Go.Proofs.Ytdmjfmojacnbeaa.Keep
set_option linter.unusedVariables false
set_option linter.unusedSimpArgs false
/-- the first i and the last i of l have changed places -/
structure Half (l : List El) (i : Nat) (ys : List El) (n : Nat) : Prop where
  len : ys.length = n
  out : ∀ t, t < l.length → (t < i ∨ l.length - 1 - i < t) → ys[t]? = l[l.length - 1 - t]?
  mid : ∀ t, i ≤ t → t + i < l.length → ys[t]? = l[t]?
theorem Half.start {l xs : List El} (h : xs.take l.length = l) : Half l 0 xs xs.length := by
  refine ⟨rfl, fun t ht q => by omega, fun t _ ht => ?_⟩
  rw [← h, List.getElem?_take, if_pos (by omega)]
theorem Half.step {l ys : List El} {i n : Nat} (h : Half l i ys n) (hi : 2 * i + 1 < l.length) (hn : l.length ≤ n) : Half l (i + 1) ((ys.set i (ys[l.length - 1 - i]?.getD Z)).set (l.length - 1 - i) (ys[i]?.getD Z)) n := by
  have hl := h.len
  have e1 := h.mid i (Nat.le_refl _) (by omega)
  have e2 := h.mid (l.length - 1 - i) (by omega) (by omega)
  have g1 : ∃ x, l[i]? = some x := ⟨_, List.getElem?_eq_getElem (by omega)⟩
  have g2 : ∃ x, l[l.length - 1 - i]? = some x := ⟨_, List.getElem?_eq_getElem (by omega)⟩
  obtain ⟨x1, g1⟩ := g1
  obtain ⟨x2, g2⟩ := g2
  rw [e1, e2, g1, g2]
  refine ⟨by simp [hl], fun t ht q => ?_, fun t ht q => ?_⟩
  · simp only [List.getElem?_set, List.length_set, Option.getD_some]
    by_cases q1 : l.length - 1 - i = t
    · subst q1
      rw [if_pos rfl, if_pos (by omega), show l.length - 1 - (l.length - 1 - i) = i by omega, g1]
    · rw [if_neg q1]
      by_cases q2 : i = t
      · subst q2
        rw [if_pos rfl, if_pos (by omega), g2]
      · rw [if_neg q2]
        exact h.out t ht (by omega)
  · simp only [List.getElem?_set, List.length_set]
    rw [if_neg (by omega), if_neg (by omega)]
    exact h.mid t (by omega) (by omega)
theorem Half.fin {l ys : List El} {i n : Nat} (h : Half l i ys n) (hi : l.length ≤ 2 * i + 1) (hn : l.length ≤ n) : ys.take l.length = l.reverse := by
  apply List.ext_getElem?
  intro t
  rw [List.getElem?_take]
  by_cases q : t < l.length
  · rw [if_pos q, List.getElem?_reverse q]
    by_cases q1 : t < i ∨ l.length - 1 - i < t
    · exact h.out t q q1
    · rw [h.mid t (by omega) (by omega)]
      congr 1
      omega
  · rw [if_neg q, List.getElem?_eq_none (by simp; omega)]
set_option maxHeartbeats 2000000 in
set_option maxRecDepth 100000 in
theorem reverse_call {w : World} {g c : Nat} {xs l : List El} (hr : RowIs w g xs) (hx : xs.length = c) (hl : l.length ≤ c) (ht : xs.take l.length = l) (hb : l.length ≤ 35184372088832) :
    Calls Try.prog 68 #[.slice (some ⟨g, 0, none⟩) l.length c] w fun e w' => e = .returned (.tuple #[]) ∧ (∃ ys, RowIs w' g ys ∧ ys.length = c ∧ ys.take l.length = l.reverse) ∧ Fr (fun k => k = g) w w' := by
  have R0 := hid_of (And.intro hr (And.intro (Half.start ht) (Fr.refl (fun k => k = g) w)))
  rw [hx] at R0
  obtain ⟨L, HL⟩ : ∃ L, Hid (L = l.length) := ⟨_, hid_of rfl⟩
  have R1 := hid_of hl
  rw [← HL.out] at hb hl ⊢
  clear hr hx ht
  go_enter Try.func68, Try.ntmps68
  go_wp2_with fail
  go_loopg [2, 3] L (fun gh s2 s3 wx => ∃ (i : Nat) (ys : List El), 2 * i ≤ L + 1 ∧ L ≤ i + gh ∧ s2 = .int .i64 (i : Int) ∧ s3 = .int .i64 ((L : Int) - 1 - i) ∧ Hid (RowIs wx g ys ∧ Half l i ys c ∧ Fr (fun k => k = g) w wx))
  case atStart => exact ⟨0, xs, by omega, by omega, rfl, by simp, R0⟩
  case round =>
    obtain ⟨i, ys, hi, hg, rfl, rfl, R⟩ := hrel
    by_cases hlt : 2 * i + 1 < L
    · obtain ⟨g', rfl⟩ : ∃ g', gk = g' + 1 := ⟨gk - 1, by omega⟩
      obtain ⟨hr, hh, fr⟩ := R.out
      obtain ⟨j, hj⟩ : ∃ j, L = j + 1 + i := ⟨L - 1 - i, by omega⟩
      have hjl : l.length - 1 - i = j := by rw [← HL.out]; omega
      have jI : (L : Int) - 1 - (i : Int) = (j : Int) := by omega
      rw [jI]
      have hij : i < j := by omega
      have hjL : j < L := by omega
      have hyl := hh.len
      have ci : wr.cell? ⟨g, i, none⟩ = some (V (ys[i]?.getD Z)) := by rw [hr.cell, List.getElem?_eq_getElem (by omega)]; rfl
      have cj : wr.cell? ⟨g, j, none⟩ = some (V (ys[j]?.getD Z)) := by rw [hr.cell, List.getElem?_eq_getElem (by omega)]; rfl
      have zi : wr.frozen? ⟨g, i, none⟩ = false := hr.frozen i
      have zj : wr.frozen? ⟨g, j, none⟩ = false := hr.frozen j
      have hst := hh.step (by rw [← HL.out]; exact hlt) (by rw [← HL.out]; exact hl)
      rw [hjl] at hst
      have HK := hid_of (And.intro ((hr.set i (ys[j]?.getD Z)).set j (ys[i]?.getD Z)) (And.intro hst ((fr.trans (Fr.set (F := Gr (fun k => k = g) w) (i := i) (.inl rfl) (V (ys[j]?.getD Z)))).trans (Fr.set (F := Gr (fun k => k = g) w) (i := j) (.inl rfl) (V (ys[i]?.getD Z))))))
      have HJ := hid_of hj
      generalize ys[i]?.getD Z = x at *
      generalize ys[j]?.getD Z = y at *
      have d1 : (i : Int) < (j : Int) := by omega
      clear R hr hh fr hst hj hjl jI hyl
      go_wp2_with fail
      go_region
      all_goals
        go_wp2_with fail
        go_roundg g'
        case measure => omega
        case rel => exact ⟨i + 1, _, by omega, by omega, by simp, by have := HJ.out; congr 1; omega, ⟨HK.out.1.drewN 1, HK.out.2.1, HK.out.2.2.drew⟩⟩
    · have d1 : ¬ (i : Int) < (L : Int) - 1 - i := by omega
      have R2 := hid_of R.out
      go_wp2_with fail
      go_end0
      exact ⟨rfl, ⟨ys, R2.out.1, R2.out.2.1.len, by rw [HL.out]; exact R2.out.2.1.fin (by rw [← HL.out]; omega) R1.out⟩, R2.out.2.2⟩
theorem reverse_nil (w : World) : Calls Try.prog 68 #[.slice none 0 0] w fun e w' => e = .returned (.tuple #[]) ∧ w' = w := by
  go_enter Try.func68, Try.ntmps68
  go_wp2_with fail
  go_loopg [2, 3] 0 (fun gh s2 s3 wx => s2 = .int .i64 0 ∧ s3 = .int .i64 (-1) ∧ wx = w)
  case atStart => exact ⟨rfl, rfl, rfl⟩
  case round =>
    obtain ⟨rfl, rfl, rfl⟩ := hrel
    go_wp2_with fail
    go_end0
    exact ⟨rfl, rfl⟩
theorem reverse_new {B : Nat} {w : World} {v : Value} {l : List El} (h : NR B w v l) (hb : l.length ≤ 35184372088832) :
    Calls Try.prog 68 #[v] w fun e w' => e = .returned (.tuple #[]) ∧ NR B w' v l.reverse ∧ Fr (fun k => B ≤ k) w w' := by
  rcases h with ⟨rfl, rfl⟩ | ⟨g, c, xs, rfl, hB, hr, hx, hl, ht⟩
  · refine (reverse_nil w).mono ?_
    rintro e w' ⟨rfl, rfl⟩
    exact ⟨rfl, .inl ⟨rfl, rfl⟩, Fr.refl _ _⟩
  · refine (reverse_call hr hx hl ht hb).mono ?_
    rintro e w' ⟨rfl, ⟨ys, h1, h2, h3⟩, fr⟩
    refine ⟨rfl, .inr ⟨g, c, ys, by rw [List.length_reverse], hB, h1, h2, by rw [List.length_reverse]; exact hl, by rw [List.length_reverse]; exact h3⟩, fr.mono fun k _ e => by rw [e]; exact hB⟩
theorem NR.drewN {B : Nat} {w : World} {v : Value} {l : List El} (h : NR B w v l) (m : Nat) : NR B (w.drewN m) v l := h.keep fun _ _ _ => rfl
set_option maxHeartbeats 1000000 in
set_option maxRecDepth 100000 in
theorem popFront_call {F : Nat → Prop} {b : Nat} {l : List El} {w : World} (h : DQ F b l w) (x : Int) (hb : l.length * 8 ≤ 140737488355328) :
    Calls Try.prog 37 #[ptr b, .int .i64 x] w fun e w' => ∃ v, e = .returned v ∧ NR w.heap.size w' v (l.take (clamp x l.length)) ∧ DQ (Gr F w) b (l.drop (clamp x l.length)) w' ∧ Fr F w w' := by
  have HQ := hid_of h.low
  have HN := hid_of (fun m => len_call (h.drewN m))
  have HW := hid_of (fun W => within_call x l.length W)
  have HL0 := hid_of (len_call h)
  have hk := clamp_le x l.length
  obtain ⟨k, HK⟩ : ∃ k, Hid (k = clamp x l.length) := ⟨_, hid_of rfl⟩
  rw [← HK.out] at HW hk ⊢
  obtain ⟨a, n, c, f, xs, h⟩ := h
  have HH := hid_of (fun m => held_call (DK.drewN h m))
  have hcut := cut_hi (ca a c f) l.length (c - f) k (k : Int) rfl (by have := h.fit; have := h.nc; omega)
  have hlk : (l.take k).length = k := by rw [List.length_take]; omega
  have HF := hid_of (fun m => fresh_call (w := w.drewN m) (G := F) (v := .slice (ca a c f) (l.take k).length (c - f)) ⟨_, _, rfl, by have := h.fit; have := h.nc; omega, (DK.drewN h m).rd.take k⟩ (by omega))
  rw [hlk] at HF
  have hlim : l.length ≤ 35184372088832 := by have := h.fit; have := h.lim; omega
  clear h hlk hb
  go_enter Try.func37, Try.ntmps37
  go_wp2_with fail
  refine HL0.out.mono ?_
  rintro e w1 ⟨rfl, m1, rfl⟩
  go_wp2_with fail
  refine (HW.out _).mono ?_
  rintro e w2 ⟨rfl, rfl⟩
  go_wp2_with fail
  refine (HH.out m1).mono ?_
  rintro e w3 ⟨rfl, m3, rfl⟩
  go_wp2_with fail
  refine (HF.out (m1 + m3)).mono ?_
  rintro e w4 ⟨v, rfl, hn, hbl⟩
  have hb4 : Below w.heap.size w w4 := (bel_drewN w (m1 + m3)).trans hbl
  have q4 := HQ.out.below hb4
  have HL4 := hid_of (len_call q4)
  have HKp := hid_of (fun m => keep_call (q4.drewN m) k l.length (k : Int) (l.length : Int) rfl rfl hk (Nat.le_refl _))
  have E4 := hid_of (And.intro (show NR w.heap.size w4 v (l.take k) from hn) hb4)
  clear hn hbl hb4 q4
  go_wp2_with fail
  refine HL4.out.mono ?_
  rintro e w5 ⟨rfl, m5, rfl⟩
  go_wp2_with fail
  refine (HKp.out m5).mono ?_
  rintro e w6 ⟨rfl, q6, f6⟩
  have E6 := hid_of (And.intro q6 f6)
  clear q6 f6
  go_wp2_with fail
  go_ret
  obtain ⟨q6, f6⟩ := E6.out
  obtain ⟨n4, b4⟩ := E4.out
  rw [List.take_of_length_le (by simp)] at q6
  refine ⟨v, rfl, (NR.drewN n4 m5).keep fun j hj hB => f6.block j hj fun e => ?_, q6.mono fun j hj e => ?_, ?_⟩
  · exact absurd e.2 (by omega)
  · rcases e with e | e
    · exact .inl e.1
    · exact .inr (Nat.le_trans b4.size e)
  · exact (Fr.of_below b4).trans ⟨f6.os, f6.tape, f6.output, f6.size, fun j hj hn => f6.block j hj fun e => hn (.inl e.1)⟩
set_option maxHeartbeats 1000000 in
set_option maxRecDepth 100000 in
theorem popBack_call {F : Nat → Prop} {b : Nat} {l : List El} {w : World} (h : DQ F b l w) (x : Int) (hb : l.length * 8 ≤ 140737488355328) :
    Calls Try.prog 39 #[ptr b, .int .i64 x] w fun e w' => ∃ v, e = .returned v ∧ NR w.heap.size w' v (l.drop (l.length - clamp x l.length)).reverse ∧ DQ (Gr F w) b (l.take (l.length - clamp x l.length)) w' ∧ Fr F w w' := by
  have HQ := hid_of h.low
  have HN := hid_of (fun m => len_call (h.drewN m))
  have HW := hid_of (fun W => within_call x l.length W)
  have HL0 := hid_of (len_call h)
  have hk := clamp_le x l.length
  obtain ⟨k, HK⟩ : ∃ k, Hid (k = clamp x l.length) := ⟨_, hid_of rfl⟩
  rw [← HK.out] at HW hk ⊢
  obtain ⟨d, HD⟩ : ∃ d, Hid (d = l.length - k) := ⟨_, hid_of rfl⟩
  rw [← HD.out]
  have hd : d ≤ l.length := by rw [HD.out]; omega
  have eD : (l.length : Int) - (k : Int) = (d : Int) := by rw [HD.out]; omega
  obtain ⟨a, n, c, f, xs, h⟩ := h
  have HH := hid_of (fun m => held_call (DK.drewN h m))
  have hcut := cut_lo (ca a c f) l.length (c - f) d (d : Int) rfl hd
  have hld : (l.drop d).length = l.length - d := by rw [List.length_drop]
  have HF := hid_of (fun m => fresh_call (w := w.drewN m) (G := F) (v := .slice (ca (ca a c f) (c - f) d) (l.drop d).length (c - f - d)) ⟨_, _, rfl, by have := h.fit; have := h.nc; omega, (DK.drewN h m).rd.drop (by have := h.fit; have := h.nc; omega) d⟩ (by omega))
  rw [hld] at HF
  have hlim : l.length ≤ 35184372088832 := by have := h.fit; have := h.lim; omega
  clear h hld hb
  go_enter Try.func39, Try.ntmps39
  go_wp2_with fail
  refine HL0.out.mono ?_
  rintro e w1 ⟨rfl, m1, rfl⟩
  go_wp2_with fail
  refine (HN.out m1).mono ?_
  rintro e w1 ⟨rfl, m2, rfl⟩
  go_wp2_with fail
  refine (HW.out _).mono ?_
  rintro e w2 ⟨rfl, rfl⟩
  go_wp2_with fail
  refine (HH.out (m1 + m2)).mono ?_
  rintro e w3 ⟨rfl, m3, rfl⟩
  go_wp2_with fail
  refine (HF.out (m1 + m2 + m3)).mono ?_
  rintro e w4 ⟨v, rfl, hn, hbl⟩
  have hb4 : Below w.heap.size w w4 := (bel_drewN w (m1 + m2 + m3)).trans hbl
  have HR := hid_of (reverse_new hn (by rw [List.length_drop]; omega))
  have E4 := hid_of (And.intro hb4 (HQ.out.below hb4))
  clear hn hbl hb4
  go_wp2_with fail
  refine HR.out.mono ?_
  rintro e w5 ⟨rfl, n5, f5⟩
  have q5 : DQ (fun k => F k ∧ k < w.heap.size) b l w5 := E4.out.2.keep fun j hj hF => f5.block j hj fun e => absurd hF.2 (by have : w.heap.size ≤ j := e; omega)
  have HKp := hid_of (keep_call q5 0 d 0 (d : Int) rfl rfl (Nat.zero_le _) hd)
  have E5 := hid_of (And.intro (show NR w.heap.size w5 v (l.drop d).reverse from n5) f5)
  clear n5 f5 q5
  go_wp2_with fail
  refine HKp.out.mono ?_
  rintro e w6 ⟨rfl, q6, f6⟩
  have E6 := hid_of (And.intro q6 f6)
  clear q6 f6
  go_wp2_with fail
  go_ret
  obtain ⟨q6, f6⟩ := E6.out
  obtain ⟨n5, f5⟩ := E5.out
  obtain ⟨b4, _⟩ := E4.out
  rw [List.drop_zero, Nat.sub_zero] at q6
  have s5 : w.heap.size ≤ w5.heap.size := Nat.le_trans b4.size f5.size
  refine ⟨v, rfl, n5.keep fun j hj hB => f6.block j hj fun e => ?_, q6.mono fun j hj e => ?_, ?_⟩
  · exact absurd e.2 (by omega)
  · rcases e with e | e
    · exact .inl e.1
    · exact .inr (Nat.le_trans s5 e)
  · exact ((Fr.of_below b4).trans ⟨f5.os, f5.tape, f5.output, f5.size, fun j hj hn => f5.block j hj fun e => hn (.inr e)⟩).trans ⟨f6.os, f6.tape, f6.output, f6.size, fun j hj hn => f6.block j hj fun e => hn (.inl e.1)⟩
end Go.Proofs.Ytdmjfmojacnbeaa.Pop
