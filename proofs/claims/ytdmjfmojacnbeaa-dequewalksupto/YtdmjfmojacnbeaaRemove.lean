/- Remove. -/
import Derived.Test.YtdmjfmojacnbeaaDropC
import Derived.Test.YtdmjfmojacnbeaaSortC
namespace Go.Proofs.Ytdmjfmojacnbeaa.Remove
open Go.RowKit
open Go.Proofs.Ytdmjfmojacnbeaa.Base
open Go.Proofs.Ytdmjfmojacnbeaa.Held
open Go.Proofs.Ytdmjfmojacnbeaa.Lay
open Go.Proofs.Ytdmjfmojacnbeaa.Free
open Go.Proofs.Ytdmjfmojacnbeaa.Place
open Go.Proofs.Ytdmjfmojacnbeaa.FindMath
open Go.Proofs.Ytdmjfmojacnbeaa.Find
open Go.Proofs.Ytdmjfmojacnbeaa.FindA
open Go.Proofs.Ytdmjfmojacnbeaa.DropC
open Go.Proofs.Ytdmjfmojacnbeaa.SortC
set_option linter.unusedVariables false
set_option linter.unusedSimpArgs false
/-- the places that Remove takes away, rising -/
def remP (l : List El) (count : Int) (v : El) : List Nat := if count < 0 then (findN l v 1 true (IntKind.i64.wrap (-count)) l.length).reverse else findN l v 1 false count l.length
theorem dropS_nil (l : List El) (i : Nat) : dropS l i [] = l := by
  induction l generalizing i with
  | nil => rfl
  | cons x r ih => rw [dropS, ih]
theorem remP_len (l : List El) (count : Int) (v : El) : (remP l count v).length ≤ l.length := by
  unfold remP
  split
  · rw [List.length_reverse]; exact find_len _ _ _ _ _ _
  · exact find_len _ _ _ _ _ _
set_option maxHeartbeats 2000000 in
set_option maxRecDepth 100000 in
/-- the rest of Remove, when what is found is known -/
theorem remove_raw {F : Nat → Prop} {b : Nat} {l : List El} {w : World} (h : DQ F b l w) (C : Int) (v : El) (R K : Int) (fs ps : List Nat) (hb : l.length * 8 ≤ 140737488355328) (hfs : fs.length ≤ l.length)
    (hneg : (C < 0 ∧ IntKind.i64.wrap (-C) = K ∧ R = -1) ∨ (¬ C < 0 ∧ K = C ∧ R = 1))
    (HF : Hid (Calls Try.prog 43 #[ptr b, V v, .int .i64 R, .int .i64 K, .int .i64 0] w fun e w' => ∃ v', e = .returned v' ∧ Base.NR w.heap.size w' v' (ints fs) ∧ Below w.heap.size w w'))
    (hs : srt (ints fs) = ints ps) :
    Calls Try.prog 44 #[ptr b, .int .i64 C, V v] w fun e w' => e = .returned (.int .i64 (fs.length : Int)) ∧ DQ (Gr F w) b (dropS l 0 ps) w' ∧ Fr F w w' := by
  have hl := lim_of h
  have HQ := hid_of h.low
  have HS := hid_of (And.intro hs hfs)
  have hpl : ps.length = fs.length := by
    have := congrArg List.length hs
    unfold srt at this
    rw [List.length_mergeSort, ints_len, ints_len] at this
    exact this.symm
  have HPL := hid_of hpl
  clear h hs hpl
  have tail : ∀ (v' : Value) (w1 : World), Base.NR w.heap.size w1 v' (ints fs) → Below w.heap.size w w1 → fs ≠ [] → Calls Try.prog 61 #[v'] w1 fun e w' => e = .returned (.tuple #[]) ∧ Hid (Base.SL (fun k => w.heap.size ≤ k) w' v' (ints ps) ∧ Fr (fun k => w.heap.size ≤ k) w1 w' ∧ DQ (fun k => F k ∧ k < w.heap.size) b l w') := by
    intro v' w1 hn hb1 hne
    refine (sort_call hn (by simpa [ints] using hne) (by rw [ints_len]; have := HS.out.2; omega)).mono ?_
    rintro e w2 ⟨rfl, s2, f2⟩
    rw [HS.out.1] at s2
    exact ⟨rfl, s2, f2, (HQ.out.below hb1).keep fun k hk hF => f2.block k hk fun e => absurd hF.2 (by have : w.heap.size ≤ k := e; omega)⟩
  have HTail := hid_of tail
  clear tail
  obtain ⟨N, HNn⟩ : ∃ N, Hid (N = fs.length) := ⟨_, hid_of rfl⟩
  rw [← HNn.out]
  rcases hneg with ⟨c1, c2, rfl⟩ | ⟨c1, rfl, rfl⟩
  all_goals
    go_enter Try.func44, Try.ntmps44
    go_wp2_with fail
    refine HF.out.mono ?_
    rintro e w1 ⟨v', rfl, n1, b1⟩
    obtain ⟨a1, k1, rfl, hk1, _⟩ := NR.shape n1
    have N1 := hid_of (And.intro n1 b1)
    rw [ints_len, ← HNn.out] at hk1 ⊢ N1
    clear n1 b1 hk1
    by_cases hne : fs = []
    · have h0 : fs.length = 0 := by rw [hne]; rfl
      obtain rfl : N = 0 := by rw [HNn.out]; exact h0
      go_wp2_with fail
      go_ret
      refine ⟨rfl, ?_, Fr.of_below N1.out.2⟩
      have : ps = [] := List.eq_nil_of_length_eq_zero (by rw [HPL.out, h0])
      rw [this, dropS_nil]
      exact (HQ.out.below N1.out.2).mono fun k _ e => .inl e.1
    · have h0 : 0 < N := by rw [HNn.out]; exact List.length_pos_iff.2 hne
      have g0 : (0 : Int) < (N : Int) := by omega
      have HT := hid_of (HTail.out _ _ N1.out.1 N1.out.2 hne)
      go_wp2_with fail
      refine HT.out.mono ?_
      rintro e w2 ⟨rfl, H2⟩
      have HD := hid_of (drop_call H2.out.2.2 (H2.out.1.mono fun k _ e hF => absurd hF.2 (by have : w.heap.size ≤ k := e; omega)))
      go_wp2_with fail
      refine HD.out.mono ?_
      rintro e w3 ⟨rfl, q3, f3⟩
      have E3 := hid_of (And.intro q3 f3)
      clear q3 f3
      go_wp2_with fail
      go_ret
      obtain ⟨q3, f3⟩ := E3.out
      have f2 := H2.out.2.1
      have b1 := N1.out.2
      refine ⟨rfl, q3.mono fun k _ e => ?_, ?_⟩
      · rcases e with e | e
        · exact .inl e.1
        · exact .inr (Nat.le_trans (Nat.le_trans b1.size f2.size) e)
      · exact ((Fr.of_below b1).trans ⟨f2.os, f2.tape, f2.output, f2.size, fun k hk hn => f2.block k hk fun e => hn (.inr e)⟩).trans ⟨f3.os, f3.tape, f3.output, f3.size, fun k hk hn => f3.block k hk fun e => hn (.inl e.1)⟩
theorem remove_call {F : Nat → Prop} {b : Nat} {l : List El} {w : World} (h : DQ F b l w) (count : Int) (v : El) (hb : l.length * 8 ≤ 140737488355328) :
    Calls Try.prog 44 #[ptr b, .int .i64 count, V v] w fun e w' => e = .returned (.int .i64 ((remP l count v).length : Int)) ∧ DQ (Gr F w) b (dropS l 0 (remP l count v)) w' ∧ Fr F w w' := by
  unfold remP
  by_cases h0 : count < 0
  · rw [if_pos h0, List.length_reverse]
    have hf := find_call h v (-1) (IntKind.i64.wrap (-count)) 0 (by omega) (by omega) hb
    unfold findS at hf
    rw [if_neg (by decide), show looked l.length 0 = l.length from rfl] at hf
    exact remove_raw h count v (-1) _ (findN l v 1 true (IntKind.i64.wrap (-count)) l.length) _ hb (find_len _ _ _ _ _ _) (.inl ⟨h0, rfl, rfl⟩) hf (srt_down (down_find _ _ _ _ _ (Nat.le_refl _)))
  · rw [if_neg h0]
    have hf := find_call h v 1 count 0 (by omega) (by omega) hb
    unfold findS at hf
    rw [if_neg (by decide), show looked l.length 0 = l.length from rfl] at hf
    exact remove_raw h count v 1 _ (findN l v 1 false count l.length) _ hb (find_len _ _ _ _ _ _) (.inr ⟨h0, rfl, rfl⟩) hf (srt_up (up_find _ _ _ _ _))
end Go.Proofs.Ytdmjfmojacnbeaa.Remove
