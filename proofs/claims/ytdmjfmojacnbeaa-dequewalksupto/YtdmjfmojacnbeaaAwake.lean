/- What every statement asks first: chapter 9's examples. -/
import Derived.Test.YtdmjfmojacnbeaaSame
import Derived.Test.YtdmjfmojacnbeaaInsert
namespace Go.Proofs.Ytdmjfmojacnbeaa.Awake
open Go.RowKit
open Go.Proofs.Ytdmjfmojacnbeaa.Base
open Go.Proofs.Ytdmjfmojacnbeaa.Held
open Go.Proofs.Ytdmjfmojacnbeaa.Lay
open Go.Proofs.Ytdmjfmojacnbeaa.Free
open Go.Proofs.Ytdmjfmojacnbeaa.Place
open Go.Proofs.Ytdmjfmojacnbeaa.Piece
open Go.Proofs.Ytdmjfmojacnbeaa.FindMath
open Go.Proofs.Ytdmjfmojacnbeaa.Find
open Go.Proofs.Ytdmjfmojacnbeaa.FindA
open Go.Proofs.Ytdmjfmojacnbeaa.DropC
open Go.Proofs.Ytdmjfmojacnbeaa.Remove
open Go.Proofs.Ytdmjfmojacnbeaa.Insert
open Go.Proofs.Ytdmjfmojacnbeaa.Same
set_option linter.unusedVariables false
set_option linter.unusedSimpArgs false
/-- all its blocks lie from B on -/
abbrev UD (B b : Nat) (l : List El) (w : World) : Prop := DQ (fun k => B ≤ k) b l w
theorem UD.on {B b : Nat} {l : List El} {w w' : World} (h : DQ (Gr (fun k => B ≤ k) w) b l w') (hB : B ≤ w.heap.size) : UD B b l w' := DQ.mono h fun k _ e => by
  rcases e with e | e
  · exact e
  · exact Nat.le_trans hB e
theorem fr_bel {B : Nat} {w w' : World} (h : Fr (fun k => B ≤ k) w w') (hB : B ≤ w.heap.size) : Below B w w' := h.below hB fun _ e => e
theorem bel_on {B : Nat} {a b c : World} (h : Below B a b) (k : Below b.heap.size b c) (hB : B ≤ a.heap.size) : Below B a c := h.trans (k.mono (Nat.le_trans hB h.size))
/-- the list l at b, all of it from B on, and nothing below B has turned since w0 -/
structure At (B b : Nat) (l : List El) (w0 w : World) : Prop where
  ud : UD B b l w
  bl : Below B w0 w
  sz : B ≤ w.heap.size
theorem At.read {B b : Nat} {l : List El} {w0 w w' : World} (h : At B b l w0 w) (k : Below w.heap.size w w') : At B b l w0 w' := ⟨DQ.below h.ud k, h.bl.trans (k.mono h.sz), Nat.le_trans h.sz k.size⟩
theorem At.drewN {B b : Nat} {l : List El} {w0 w : World} (h : At B b l w0 w) (m : Nat) : At B b l w0 (w.drewN m) := h.read (bel_drewN w m)
theorem At.alloc {B b : Nat} {l : List El} {w0 w : World} (h : At B b l w0 w) (o : Obj) : At B b l w0 (w.alloc o) := h.read ((Below.refl _ w).alloc (Nat.le_refl _) o)
theorem At.turn {B b : Nat} {l l' : List El} {w0 w w' : World} (h : At B b l w0 w) (q : DQ (Gr (fun k => B ≤ k) w) b l' w') (f : Fr (fun k => B ≤ k) w w') : At B b l' w0 w' := ⟨UD.on q h.sz, h.bl.trans (fr_bel f h.sz), Nat.le_trans h.sz f.size⟩
theorem At.of {B b : Nat} {l : List El} {w0 w1 w2 : World} (q : DQ (fun k => w1.heap.size ≤ k) b l w2) (b1 : Below B w0 w1) (b2 : Below w1.heap.size w1 w2) (hB : B ≤ w0.heap.size) : At B b l w0 w2 :=
  ⟨DQ.mono q fun k _ e => Nat.le_trans (Nat.le_trans hB b1.size) e, b1.trans (b2.mono (Nat.le_trans hB b1.size)), Nat.le_trans hB (Nat.le_trans b1.size b2.size)⟩
theorem ex1 : pieceS [1, 2, 1, 3, 1] (-3) (-1) = [1, 3, 1] := by decide
theorem ex2 : findS [1, 2, 1, 3, 1] 1 (-1) 2 0 = [4, 2] := by decide
theorem ex3 : remP [1, 2, 1, 3, 1] (-2) 1 = [2, 4] := by decide
theorem ex4 : dropS [1, 2, 1, 3, 1] 0 [2, 4] = [1, 2, 3] := by decide
theorem ex5 : findN [1, 2, 3] (3 : El) 1 false 1 3 = [2] := by decide
theorem ex6 : insS [1, 2, 3] 2 9 = [1, 2, 9, 3] := by decide
set_option maxHeartbeats 4000000 in
set_option maxRecDepth 100000 in
theorem awake_call (w : World) : Calls Try.prog 10 #[] w fun e w' => e = .returned (.bool true) ∧ Below w.heap.size w w' := by
  obtain ⟨B, hB⟩ : ∃ B, B = w.heap.size := ⟨_, rfl⟩
  have HB := hid_of hB
  have s0 := sl_new w [1, 2, 1, 3, 1]
  have b0 := (Below.refl w.heap.size w).alloc (Nat.le_refl _) (.cells (cells [1, 2, 1, 3, 1]) 3)
  have HO := hid_of (of_call s0 (by decide))
  have HB0 := hid_of b0
  clear s0 b0 hB
  go_enter Try.func10, Try.ntmps10
  go_wp2_with fail
  refine HO.out.mono ?_
  rintro e w1 ⟨b, rfl, q1, b1⟩
  have E1 : Hid (At B b [1, 2, 1, 3, 1] w w1) := At.of q1 (by rw [HB.out]; exact HB0.out) b1 (by rw [HB.out]; exact Nat.le_refl _)
  have HL := hid_of (len_call E1.out.ud)
  clear q1 b1
  go_wp2_with fail
  refine HL.out.mono ?_
  rintro e w2 ⟨rfl, m2, rfl⟩
  have HS := hid_of (slice_call (E1.out.drewN m2).ud (-3) (-1) (by decide) (by decide) (by decide) (by decide) (by decide))
  rw [ex1] at HS
  go_wp2_with fail
  refine HS.out.mono ?_
  rintro e w3 ⟨v3, rfl, n3, b3⟩
  have E3 := hid_of ((E1.out.drewN m2).read b3)
  have HSm := hid_of (same_call (n3.sl.below ((Below.refl _ w3).alloc (Nat.le_refl _) (.cells (cells [1, 3, 1]) 3))) (sl_new w3 [1, 3, 1]) rfl (by decide))
  clear n3 b3
  go_wp2_with fail
  refine HSm.out.mono ?_
  rintro e w4 ⟨rfl, m4, rfl⟩
  have E4 := hid_of ((E3.out.alloc (.cells (cells [1, 3, 1]) 3)).drewN m4)
  have HF := hid_of (find_call E4.out.ud 1 (-1) 2 0 (by decide) (by decide) (by decide))
  rw [ex2] at HF
  go_wp2_with fail
  refine HF.out.mono ?_
  rintro e w5 ⟨v5, rfl, n5, b5⟩
  have E5 := hid_of (E4.out.read b5)
  have HSm5 := hid_of (same_call (n5.sl.below ((Below.refl _ w5).alloc (Nat.le_refl _) (.cells (cells [4, 2]) 3))) (sl_new w5 [4, 2]) rfl (by decide))
  clear n5 b5
  go_wp2_with fail
  refine HSm5.out.mono ?_
  rintro e w6 ⟨rfl, m6, rfl⟩
  have E6 := hid_of ((E5.out.alloc (.cells (cells [4, 2]) 3)).drewN m6)
  have HR := hid_of (remove_call E6.out.ud (-2) 1 (by decide))
  rw [ex3, ex4] at HR
  go_wp2_with fail
  refine HR.out.mono ?_
  rintro e w7 ⟨rfl, q7, f7⟩
  have E7 := hid_of (E6.out.turn q7 f7)
  have HI := hid_of (insert_yes E7.out.ud true 3 9 2 (by decide) (by decide) ex5 (by decide))
  rw [if_pos rfl, ex6] at HI
  clear q7 f7
  go_wp2_with fail
  refine HI.out.mono ?_
  rintro e w8 ⟨rfl, q8, f8⟩
  have E8 := hid_of (E7.out.turn q8 f8)
  have HLi := hid_of (list_call E8.out.ud (by decide))
  clear q8 f8
  go_wp2_with fail
  refine HLi.out.mono ?_
  rintro e w9 ⟨v9, rfl, n9, b9⟩
  have E9 := hid_of (E8.out.read b9)
  have HSm9 := hid_of (same_call (n9.sl.below ((Below.refl _ w9).alloc (Nat.le_refl _) (.cells (cells [1, 2, 9, 3]) 3))) (sl_new w9 [1, 2, 9, 3]) rfl (by decide))
  clear n9 b9
  go_wp2_with fail
  refine HSm9.out.mono ?_
  rintro e w10 ⟨rfl, m10, rfl⟩
  have E10 := hid_of ((E9.out.alloc (.cells (cells [1, 2, 9, 3]) 3)).drewN m10)
  go_wp2_with fail
  go_ret
  have := E10.out.bl
  rw [HB.out] at this
  exact ⟨rfl, this⟩
end Go.Proofs.Ytdmjfmojacnbeaa.Awake
