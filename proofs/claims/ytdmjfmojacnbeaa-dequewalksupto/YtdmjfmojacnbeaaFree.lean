/- free, Of, List, PushBack, PushFront. -/
import Derived.Test.YtdmjfmojacnbeaaLay
namespace Go.Proofs.Ytdmjfmojacnbeaa.Free
open Go.RowKit
open Go.Proofs.Ytdmjfmojacnbeaa.Base
open Go.Proofs.Ytdmjfmojacnbeaa.Held
open Go.Proofs.Ytdmjfmojacnbeaa.Lay
set_option linter.unusedVariables false
set_option linter.unusedSimpArgs false
theorem DK.up {F : Nat → Prop} {b : Nat} {a : Option Addr} {n c f : Nat} {xs l : List El} {w : World} (h : DK F b a n c f xs l w) (w0 : World) : DK (Gr F w0) b a n c f xs l w := h.mono fun _ _ e => .inl e
theorem DK.drewN {F : Nat → Prop} {b : Nat} {a : Option Addr} {n c f : Nat} {xs l : List El} {w : World} (h : DK F b a n c f xs l w) (m : Nat) : DK F b a n c f xs l (w.drewN m) := h.keep fun _ _ _ => rfl
set_option maxHeartbeats 1000000 in
set_option maxRecDepth 100000 in
theorem free_call {F : Nat → Prop} {b : Nat} {l : List El} {w : World} (h : DQ F b l w) (x y : Nat) (X Y : Int) (hX : X = x) (hY : Y = y) (hs : (2 * (x + l.length + y) + l.length) * 8 ≤ 281474976710656) :
    Calls Try.prog 66 #[ptr b, .int .i64 X, .int .i64 Y] w fun e w' => e = .returned (.tuple #[]) ∧ (∃ a n c f xs, DK (Gr F w) b a n c f xs l w' ∧ x ≤ f ∧ f + l.length + y ≤ n) ∧ Fr F w w' := by
  have HQ := hid_of h
  have HL := hid_of (fun m => lay_call (h.drewN m) (x + l.length + y) hs)
  have HN := hid_of (fun m => len_call (h.drewN m))
  obtain ⟨a, n, c, f, xs, h⟩ := h
  have c0 : w.cell? ⟨b, 0, none⟩ = some (.slice a n c) := h.cell 0
  have c1 : w.cell? ⟨b, 1, none⟩ = some (.int .i64 (f : Int)) := h.cell 1
  obtain ⟨t, HT⟩ : ∃ t, Hid (t = f + l.length) := ⟨_, hid_of rfl⟩
  have c2 : w.cell? ⟨b, 2, none⟩ = some (.int .i64 (t : Int)) := by rw [HT.out]; exact h.cell 2
  have h1 : t ≤ n := by rw [HT.out]; exact h.fit
  have h2 := h.lim
  have b1 : x ≤ 281474976710656 := by omega
  have b2 : y ≤ 281474976710656 := by omega
  have b3 : l.length ≤ 281474976710656 := by omega
  obtain ⟨S, HS⟩ : ∃ S, Hid (S = x + l.length + y) := ⟨_, hid_of rfl⟩
  rw [← HS.out] at HL
  have eS : X + (l.length : Int) + Y = (S : Int) := by rw [HS.out, hX, hY]; simp
  have HX := hid_of (And.intro hX hY)
  have bX : 0 ≤ X ∧ X ≤ 281474976710656 := by omega
  have bY : 0 ≤ Y ∧ Y ≤ 281474976710656 := by omega
  obtain ⟨bX1, bX2⟩ := bX
  obtain ⟨bY1, bY2⟩ := bY
  have HD := hid_of h
  have w2 : IntKind.i64.wrap ((n : Int) - (t : Int)) = (n : Int) - (t : Int) := IntWalk.i64_in _ (by omega)
  have w3 : IntKind.i64.wrap (X + (l.length : Int)) = X + (l.length : Int) := IntWalk.i64_in _ (by omega)
  clear h hX hY hs
  by_cases g1 : (f : Int) < X
  · have d1 : decide ((f : Int) < X) = true := by simpa using g1
    go_enter Try.func66, Try.ntmps66
    go_wp2_with fail
    go_quiet (fail)
    go_wp2_with fail
    refine (HN.out _).mono ?_
    rintro e w1 ⟨rfl, m, rfl⟩
    go_wp2_with fail
    refine (HL.out (nq + m)).mono ?_
    rintro e w1 ⟨rfl, ⟨a', c', xs', k⟩, fr⟩
    have K := hid_of (And.intro k fr)
    clear k fr
    go_wp2_with fail
    go_end0
    exact ⟨rfl, ⟨a', _, c', _, xs', K.out.1, by rw [HS.out]; omega, by rw [HS.out]; omega⟩, ⟨K.out.2.os, K.out.2.tape, K.out.2.output, K.out.2.size, K.out.2.block⟩⟩
  · have d1 : decide ((f : Int) < X) = false := by simpa using g1
    by_cases g2 : (n : Int) - (t : Int) < Y
    · have d2 : decide ((n : Int) - (t : Int) < Y) = true := by simpa using g2
      go_enter Try.func66, Try.ntmps66
      go_wp2_with fail
      go_quiet (fail)
      go_wp2_with fail
      refine (HN.out _).mono ?_
      rintro e w1 ⟨rfl, m, rfl⟩
      go_wp2_with fail
      refine (HL.out (nq + m)).mono ?_
      rintro e w1 ⟨rfl, ⟨a', c', xs', k⟩, fr⟩
      have K := hid_of (And.intro k fr)
      clear k fr
      go_wp2_with fail
      go_end0
      exact ⟨rfl, ⟨a', _, c', _, xs', K.out.1, by rw [HS.out]; omega, by rw [HS.out]; omega⟩, ⟨K.out.2.os, K.out.2.tape, K.out.2.output, K.out.2.size, K.out.2.block⟩⟩
    · have d2 : decide ((n : Int) - (t : Int) < Y) = false := by simpa using g2
      go_enter Try.func66, Try.ntmps66
      go_wp2_with fail
      go_quiet (fail)
      go_wp2_with fail
      go_end0
      have hx := HX.out
      have ht := HT.out
      exact ⟨rfl, ⟨a, n, c, f, xs, DK.up (DK.drewN HD.out nq) w, by omega, by omega⟩, (Fr.refl _ _).drewN _⟩
set_option maxRecDepth 100000 in
theorem list_call {F : Nat → Prop} {b : Nat} {l : List El} {w : World} (h : DQ F b l w) (hb : l.length * 8 ≤ 140737488355328) :
    Calls Try.prog 14 #[ptr b] w fun e w' => ∃ v, e = .returned v ∧ NR w.heap.size w' v l ∧ Below w.heap.size w w' := by
  obtain ⟨a, n, c, f, xs, h⟩ := h
  have H := hid_of (held_call h)
  have HF := hid_of (fun m => fresh_call (w := w.drewN m) (G := F) (v := .slice (ca a c f) l.length (c - f)) ⟨_, _, rfl, by have := h.fit; have := h.nc; omega, (DK.drewN h m).rd⟩ hb)
  clear h hb
  go_enter Try.func14, Try.ntmps14
  go_wp2_with fail
  refine H.out.mono ?_
  rintro e w1 ⟨rfl, m, rfl⟩
  go_wp2_with fail
  refine (HF.out m).mono ?_
  rintro e w1 ⟨v, rfl, hn, hbl⟩
  have K := hid_of (And.intro hn hbl)
  clear hn hbl
  go_wp2_with fail
  go_ret
  exact ⟨v, rfl, K.out.1, (bel_drewN w m).trans K.out.2⟩
theorem NR.shape {B : Nat} {w : World} {v : Value} {l : List El} (h : NR B w v l) : ∃ a c, v = .slice a l.length c ∧ l.length ≤ c ∧ ((a = none ∧ c = 0) ∨ ∃ g xs, a = some ⟨g, 0, none⟩ ∧ B ≤ g ∧ xs.length = c ∧ RowIs w g xs ∧ xs.take l.length = l) := by
  rcases h with ⟨rfl, rfl⟩ | ⟨g, c, xs, rfl, hB, hr, hx, hl, ht⟩
  · exact ⟨none, 0, rfl, Nat.le_refl _, .inl ⟨rfl, rfl⟩⟩
  · exact ⟨_, c, rfl, hl, .inr ⟨g, xs, rfl, hB, hx, hr, ht⟩⟩
set_option maxRecDepth 100000 in
theorem of_call {G : Nat → Prop} {w : World} {v : Value} {l : List El} (h : SL G w v l) (hb : l.length * 8 ≤ 140737488355328) :
    Calls Try.prog 9 #[v] w fun e w' => ∃ b, e = .returned (ptr b) ∧ DQ (fun k => w.heap.size ≤ k) b l w' ∧ Below w.heap.size w w' := by
  have HF := hid_of (fresh_call h hb)
  obtain ⟨a, c, rfl, hc, hr⟩ := h
  have HB := hid_of hb
  clear hr hc hb
  go_enter Try.func9, Try.ntmps9
  go_wp2_with fail
  refine HF.out.mono ?_
  rintro e w1 ⟨v, rfl, hn, hbl⟩
  obtain ⟨a', c', rfl, hc', hr'⟩ := NR.shape hn
  have K := hid_of (And.intro hr' (And.intro hbl hc'))
  clear hn hbl hr' hc'
  go_wp2_with fail
  go_ret
  obtain ⟨k1, k2, k3⟩ := K.out
  have b2 := (Below.refl w1.heap.size w1).alloc (Nat.le_refl _) (.cells #[.slice a' l.length c', .int .i64 0, .int .i64 (l.length : Int)] 72)
  refine ⟨w1.heap.size, rfl, ?_, k2.trans (b2.mono k2.size)⟩
  rcases k1 with ⟨rfl, rfl⟩ | ⟨g, xs, rfl, hB, hx, hr, ht⟩
  · refine ⟨none, l.length, 0, 0, [], ⟨?_, k2.size, by omega, k3, by have := HB.out; omega, .inl ⟨rfl, rfl⟩, ?_⟩⟩
    · rw [heap_alloc_new]; simp
    · have : l = [] := by cases l with
        | nil => rfl
        | cons a r => simp at k3
      subst this; rfl
  · refine ⟨_, l.length, c', 0, xs, ⟨?_, k2.size, by omega, k3, by have := HB.out; omega, .inr ⟨g, rfl, hB, hx, (b2.block g hr.lt).trans hr⟩, by simpa using ht⟩⟩
    rw [heap_alloc_new]; simp
end Go.Proofs.Ytdmjfmojacnbeaa.Free
