/- piece, Slice, Trim. -/
import Derived.Test.YtdmjfmojacnbeaaPlace
namespace Go.Proofs.Ytdmjfmojacnbeaa.Piece
open Go.RowKit
open Go.Proofs.Ytdmjfmojacnbeaa.Base
open Go.Proofs.Ytdmjfmojacnbeaa.Held
open Go.Proofs.Ytdmjfmojacnbeaa.Lay
open Go.Proofs.Ytdmjfmojacnbeaa.Free
open Go.Proofs.Ytdmjfmojacnbeaa.Push
open Go.Proofs.Ytdmjfmojacnbeaa.Keep
open Go.Proofs.Ytdmjfmojacnbeaa.Pop
open Go.Proofs.Ytdmjfmojacnbeaa.Place
set_option linter.unusedVariables false
set_option linter.unusedSimpArgs false
/-- a number below 0 is counted from the end -/
def ends (n : Nat) (x : Int) : Int := if x < 0 then x + n else x
/-- where a piece begins, and where it has ended -/
def pcF (n : Nat) (x y : Int) : Nat := if max (ends n x) 0 ≤ min (ends n y) (n - 1) then (max (ends n x) 0).toNat else 0
def pcT (n : Nat) (x y : Int) : Nat := if max (ends n x) 0 ≤ min (ends n y) (n - 1) then (min (ends n y) (n - 1) + 1).toNat else 0
theorem pc_le (n : Nat) (x y : Int) : pcF n x y ≤ pcT n x y ∧ pcT n x y ≤ n := by
  unfold pcF pcT
  split <;> omega
def pieceS (l : List El) (x y : Int) : List El := (l.drop (pcF l.length x y)).take (pcT l.length x y - pcF l.length x y)
theorem ret_ii {a b c d : Int} (h : a = c) (k : b = d) : Ending.returned (.tuple #[.int .i64 a, .int .i64 b]) = .returned (.tuple #[.int .i64 c, .int .i64 d]) := by rw [h, k]
set_option maxHeartbeats 1000000 in
set_option maxRecDepth 100000 in
theorem piece_call {F : Nat → Prop} {b : Nat} {l : List El} {w : World} (h : DQ F b l w) (x y : Int) (hx : -9223372036854775808 ≤ x) (hy : -9223372036854775808 ≤ y) (hx2 : x ≤ 9223372036854775807) (hy2 : y ≤ 9223372036854775807) :
    Calls Try.prog 69 #[ptr b, .int .i64 x, .int .i64 y] w fun e w' => e = .returned (.tuple #[.int .i64 (pcF l.length x y : Int), .int .i64 (pcT l.length x y : Int)]) ∧ ∃ m, w' = w.drewN m := by
  have HN := hid_of (fun m => len_call (h.drewN m))
  have HL0 := hid_of (len_call h)
  have hl := lim_of h
  obtain ⟨L, HL⟩ : ∃ L, Hid (L = l.length) := ⟨_, hid_of rfl⟩
  rw [← HL.out] at HN HL0 hl ⊢
  clear h
  have HF := hid_of (show ((pcF L x y : Nat) : Int) = if max (ends L x) 0 ≤ min (ends L y) (L - 1) then max (ends L x) 0 else 0 by unfold pcF; split <;> omega)
  have HT := hid_of (show ((pcT L x y : Nat) : Int) = if max (ends L x) 0 ≤ min (ends L y) (L - 1) then min (ends L y) (L - 1) + 1 else 0 by unfold pcT; split <;> omega)
  obtain ⟨X, HX⟩ : ∃ X, Hid (X = ends L x) := ⟨_, hid_of rfl⟩
  obtain ⟨Y, HY⟩ : ∃ Y, Hid (Y = ends L y) := ⟨_, hid_of rfl⟩
  rw [← HX.out, ← HY.out] at HF HT
  obtain ⟨A, HA⟩ : ∃ A : Int, Hid (A = ((pcF L x y : Nat) : Int)) := ⟨_, hid_of rfl⟩
  obtain ⟨B, HB⟩ : ∃ B : Int, Hid (B = ((pcT L x y : Nat) : Int)) := ⟨_, hid_of rfl⟩
  rw [← HA.out] at HF ⊢
  rw [← HB.out] at HT ⊢
  have bX : X ≤ 9223372036854775807 ∧ -9223372036854775808 ≤ X := by rw [HX.out]; unfold ends; split <;> omega
  have bY : Y ≤ 9223372036854775807 ∧ -9223372036854775808 ≤ Y := by rw [HY.out]; unfold ends; split <;> omega
  obtain ⟨bX1, bX2⟩ := bX
  obtain ⟨bY1, bY2⟩ := bY
  have wx : x < 0 → IntKind.i64.wrap (x + (L : Int)) = x + (L : Int) := fun _ => IntWalk.i64_in _ (by omega)
  have wy : y < 0 → IntKind.i64.wrap (y + (L : Int)) = y + (L : Int) := fun _ => IntWalk.i64_in _ (by omega)
  clear HA HB
  by_cases h1 : x < 0
  · have eX : x + (L : Int) = X := by rw [HX.out]; unfold ends; rw [if_pos h1]
    have w1 := wx h1
    clear wx
    rw [eX] at w1
    by_cases h2 : y < 0
    · have eY : y + (L : Int) = Y := by rw [HY.out]; unfold ends; rw [if_pos h2]
      have w2 := wy h2
      clear wy
      rw [eY] at w2
      go_enter Try.func69, Try.ntmps69
      go_wp2_with fail
      refine HL0.out.mono ?_
      rintro e w1 ⟨rfl, m1, rfl⟩
      go_wp2_with fail
      refine (HN.out m1).mono ?_
      rintro e w1 ⟨rfl, m2, rfl⟩
      go_wp2_with fail
      all_goals
        refine (HN.out (m1 + m2)).mono ?_
        rintro e w1 ⟨rfl, m3, rfl⟩
        go_wp2_with fail
      all_goals
        go_ret2
        exact ⟨ret_ii (by rw [HF.out]; split <;> omega) (by rw [HT.out]; split <;> omega), m1 + m2 + m3, rfl⟩
    · have eY : y = Y := by rw [HY.out]; unfold ends; rw [if_neg h2]
      subst eY
      clear wy
      go_enter Try.func69, Try.ntmps69
      go_wp2_with fail
      refine HL0.out.mono ?_
      rintro e w1 ⟨rfl, m1, rfl⟩
      go_wp2_with fail
      all_goals
        refine (HN.out m1).mono ?_
        rintro e w1 ⟨rfl, m3, rfl⟩
        go_wp2_with fail
      all_goals
        go_ret2
        exact ⟨ret_ii (by rw [HF.out]; split <;> omega) (by rw [HT.out]; split <;> omega), m1 + m3, rfl⟩
  · have eX : x = X := by rw [HX.out]; unfold ends; rw [if_neg h1]
    subst eX
    clear wx
    by_cases h2 : y < 0
    · have eY : y + (L : Int) = Y := by rw [HY.out]; unfold ends; rw [if_pos h2]
      have w2 := wy h2
      clear wy
      rw [eY] at w2
      go_enter Try.func69, Try.ntmps69
      go_wp2_with fail
      refine HL0.out.mono ?_
      rintro e w1 ⟨rfl, m1, rfl⟩
      go_wp2_with fail
      all_goals
        refine (HN.out m1).mono ?_
        rintro e w1 ⟨rfl, m3, rfl⟩
        go_wp2_with fail
      all_goals
        go_ret2
        exact ⟨ret_ii (by rw [HF.out]; split <;> omega) (by rw [HT.out]; split <;> omega), m1 + m3, rfl⟩
    · have eY : y = Y := by rw [HY.out]; unfold ends; rw [if_neg h2]
      subst eY
      clear wy
      go_enter Try.func69, Try.ntmps69
      go_wp2_with fail
      all_goals
        refine HL0.out.mono ?_
        rintro e w1 ⟨rfl, m3, rfl⟩
        go_wp2_with fail
      all_goals
        go_ret2
        exact ⟨ret_ii (by rw [HF.out]; split <;> omega) (by rw [HT.out]; split <;> omega), m3, rfl⟩
set_option maxHeartbeats 1000000 in
set_option maxRecDepth 100000 in
theorem slice_call {F : Nat → Prop} {b : Nat} {l : List El} {w : World} (h : DQ F b l w) (x y : Int) (hx : -9223372036854775808 ≤ x) (hy : -9223372036854775808 ≤ y) (hx2 : x ≤ 9223372036854775807) (hy2 : y ≤ 9223372036854775807) (hb : l.length * 8 ≤ 140737488355328) :
    Calls Try.prog 40 #[ptr b, .int .i64 x, .int .i64 y] w fun e w' => ∃ v, e = .returned v ∧ NR w.heap.size w' v (pieceS l x y) ∧ Below w.heap.size w w' := by
  have HP := hid_of (piece_call h x y hx hy hx2 hy2)
  obtain ⟨hpq, hq⟩ := pc_le l.length x y
  unfold pieceS
  generalize pcF l.length x y = p at *
  generalize pcT l.length x y = q at *
  obtain ⟨a, n, c, f, xs, h⟩ := h
  have h1 := h.fit
  have h2 := h.nc
  have HH := hid_of (fun m => held_call (DK.drewN h m))
  have hcut := cut_any (ca a c f) l.length (c - f) p q (p : Int) (q : Int) rfl rfl hpq (by omega)
  have hlen : ((l.drop p).take (q - p)).length = q - p := by simp; omega
  have HF := hid_of (fun m => fresh_call (w := w.drewN m) (G := F) (v := .slice (ca (ca a c f) (c - f) p) ((l.drop p).take (q - p)).length (c - f - p)) ⟨_, _, rfl, by rw [hlen]; omega, ((DK.drewN h m).rd.drop (by omega) p).take _⟩ (by rw [hlen]; omega))
  rw [hlen] at HF
  clear h h1 h2 hlen hb
  go_enter Try.func40, Try.ntmps40
  go_wp2_with fail
  refine HP.out.mono ?_
  rintro e w1 ⟨rfl, m1, rfl⟩
  go_wp2_with fail
  refine (HH.out m1).mono ?_
  rintro e w1 ⟨rfl, m2, rfl⟩
  go_wp2_with fail
  refine (HF.out (m1 + m2)).mono ?_
  rintro e w4 ⟨v, rfl, hn, hbl⟩
  have E4 := hid_of (And.intro hn hbl)
  clear hn hbl
  go_wp2_with fail
  go_ret
  exact ⟨v, rfl, E4.out.1, (bel_drewN w (m1 + m2)).trans E4.out.2⟩
set_option maxRecDepth 100000 in
theorem trim_call {F : Nat → Prop} {b : Nat} {l : List El} {w : World} (h : DQ F b l w) (x y : Int) (hx : -9223372036854775808 ≤ x) (hy : -9223372036854775808 ≤ y) (hx2 : x ≤ 9223372036854775807) (hy2 : y ≤ 9223372036854775807) :
    Calls Try.prog 42 #[ptr b, .int .i64 x, .int .i64 y] w fun e w' => e = .returned (.tuple #[]) ∧ DQ (Gr F w) b (pieceS l x y) w' ∧ Fr F w w' := by
  have HP := hid_of (piece_call h x y hx hy hx2 hy2)
  obtain ⟨hpq, hq⟩ := pc_le l.length x y
  unfold pieceS
  generalize pcF l.length x y = p at *
  generalize pcT l.length x y = q at *
  have HK := hid_of (fun m => keep_call (h.drewN m) p q (p : Int) (q : Int) rfl rfl hpq hq)
  clear h
  go_enter Try.func42, Try.ntmps42
  go_wp2_with fail
  refine HP.out.mono ?_
  rintro e w1 ⟨rfl, m1, rfl⟩
  go_wp2_with fail
  refine (HK.out m1).mono ?_
  rintro e w2 ⟨rfl, q2, f2⟩
  have E2 := hid_of (And.intro q2 f2)
  clear q2 f2
  go_wp2_with fail
  go_end0
  obtain ⟨q2, f2⟩ := E2.out
  exact ⟨rfl, q2, ⟨f2.os, f2.tape, f2.output, f2.size, f2.block⟩⟩
end Go.Proofs.Ytdmjfmojacnbeaa.Piece
