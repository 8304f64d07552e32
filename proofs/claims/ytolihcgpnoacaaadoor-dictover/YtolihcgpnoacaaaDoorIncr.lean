/- number, Incr. -/
import Derived.Test.YtolihcgpnoacaaaDoorFields
import Derived.Test.YtolihcgpnoacaaaDoorParse
import Derived.Test.YtolihcgpnoacaaaDoorArith
namespace Go.Proofs.YtolihcgpnoacaaaDoor.Incr
open Go.RowKit Go.Maps Go.Sort
open Go.Lib (itoa)
open Go.Proofs.YtolihcgpnoacaaaDoor.DictMath
open Go.Proofs.YtolihcgpnoacaaaDoor.Base
open Go.Proofs.YtolihcgpnoacaaaDoor.Small
open Go.Proofs.YtolihcgpnoacaaaDoor.Parse
open Go.Proofs.YtolihcgpnoacaaaDoor.RefParse
set_option linter.unusedVariables false

def Pd (l : FL) (k : Bs) (n e : Int) : Prop := match lkp l k with
  | none => n = 0 ∧ e = 0
  | some v => TextMath.Parsed v n e
theorem pd_ex (l : FL) (k : Bs) : ∃ n e, Pd l k n e := by
  unfold Pd
  cases lkp l k with
  | none => exact ⟨0, 0, rfl, rfl⟩
  | some v => exact parsed_ex v
theorem pd_in {l : FL} {k : Bs} {n e : Int} (h : Pd l k n e) : NumMath.InI n ∧ (e = 0 ∨ e = 10) := by
  unfold Pd at h
  cases hl : lkp l k with
  | none => rw [hl] at h; obtain ⟨rfl, rfl⟩ := h; exact ⟨by unfold NumMath.InI; omega, .inl rfl⟩
  | some v =>
    rw [hl] at h
    rcases h with ⟨h1, rfl⟩ | ⟨_, rfl, rfl⟩
    · exact ⟨((TextMath.text_iff _ _).1 h1).1, .inl rfl⟩
    · exact ⟨by unfold NumMath.InI; omega, .inr rfl⟩
def incrS (l : FL) (k : Bs) (n e by' : Int) : FL × Int × Int := if e = 0 then (if NumMath.fitB (n + by') = true then (withL l k (itoa (n + by')), n + by', 0) else (l, 0, 11)) else (l, 0, e)
set_option maxHeartbeats 1000000 in
set_option maxRecDepth 100000 in
theorem number_call (b m : Nat) (l : FL) (s : ByteArray) (n e : Int) (w : World) (h : DK b m l w) (hs : s.size ≤ 140737488355328) (hb : ∀ p ∈ l, p.2.length ≤ 140737488351232) (HP : Pd l (bs s) n e) (hh : Has w) :
    Calls Tryd.prog 29 #[ptr b, .string s] w fun x w' => x = .returned (.tuple #[.int .i64 n, .int .i64 e]) ∧ Below w.heap.size w w' := by
  have H1 := hid_of (get_call b m l s w h hs)
  unfold valS ok at H1
  unfold Pd at HP
  cases hl : lkp l (bs s) with
  | none =>
    rw [hl] at H1 HP
    obtain ⟨rfl, rfl⟩ := HP
    simp only [Option.isSome_none, Option.getD_none] at H1
    clear h hh
    go_enter Tryd.func29, Tryd.ntmps29
    go_wp2_with fail
    refine H1.out.mono ?_
    rintro x w1 hw1
    obtain ⟨rfl, b1⟩ := hw1
    go_wp2_with fail
    go_ret2
    exact ⟨rfl, b1⟩
  | some v =>
    rw [hl] at H1 HP
    simp only [Option.isSome_some, Option.getD_some] at H1
    have H2 : Hid (∀ w1, Below w.heap.size w w1 → Calls Tryd.prog 37 #[.string (mk v)] w1 fun x w' => x = .returned (.tuple #[.int .i64 n, .int .i64 e]) ∧ Below w1.heap.size w1 w') := hid_of fun w1 b1 => parse_any (mk v) w1 n e (by rw [mk_size]; exact hb _ (lkp_mem hl)) HP (hh.later b1)
    clear h hh HP hl
    generalize mk v = V at *
    go_enter Tryd.func29, Tryd.ntmps29
    go_wp2_with fail
    refine H1.out.mono ?_
    rintro x w1 hw1
    obtain ⟨rfl, b1⟩ := hw1
    have H3 := hid_of (H2.out w1 b1)
    have B1 := hid_of b1
    clear b1 H2
    go_wp2_with fail
    refine H3.out.mono ?_
    rintro x w2 hw2
    obtain ⟨rfl, b2⟩ := hw2
    go_wp2_with fail
    go_ret2
    exact ⟨rfl, bel B1.out b2 (Nat.le_refl _)⟩
set_option maxRecDepth 100000 in
theorem incr_nil (s : ByteArray) (n : Int) (w : World) : Calls Tryd.prog 16 #[.pointer none, .string s, .int .i64 n] w fun e w' => e = .returned (.tuple #[.int .i64 0, .int .i64 0]) ∧ w' = w := by
  go_enter Tryd.func16, Tryd.ntmps16
  go_wp2
  go_ret2
  exact ⟨rfl, rfl⟩
def IncE (b m : Nat) (l : FL) (k : Bs) (n e by' : Int) (w : World) (x : Ending) (w' : World) : Prop := x = .returned (.tuple #[.int .i64 (incrS l k n e by').2.1, .int .i64 (incrS l k n e by').2.2]) ∧ DK b m (incrS l k n e by').1 w' ∧ Mv m w w'
theorem itoa_len (n : Int) (h : NumMath.InI n) : (itoa n).length ≤ 21 := by
  unfold itoa
  split
  · have := Print.dec_len (u := n.natAbs) (by unfold NumMath.InI at h; omega)
    simp; omega
  · have := Print.dec_len (u := n.toNat) (by unfold NumMath.InI at h; omega)
    omega
set_option maxHeartbeats 2000000 in
set_option maxRecDepth 100000 in
theorem incr_call (b m : Nat) (l : FL) (s : ByteArray) (n e by' : Int) (w : World) (h : DK b m l w) (hs : s.size ≤ 140737488355328) (hb : ∀ p ∈ l, p.2.length ≤ 140737488351232) (hn : l.length < 140737488355328) (hi : NumMath.InI by') (HP : Pd l (bs s) n e) (hh : Has w) :
    Calls Tryd.prog 16 #[ptr b, .string s, .int .i64 by'] w fun x w' => IncE b m l (bs s) n e by' w x w' := by
  have H1 := hid_of (number_call b m l s n e w h hs hb HP hh)
  obtain ⟨hin, he⟩ := pd_in HP
  have HD := hid_of h
  have HM := hid_of (owns_map h.map)
  have HH := hid_of hh
  have HBY := hid_of hi
  have HIN := hid_of hin
  rcases he with rfl | rfl
  · have H2 : Hid (∀ w1, Calls Tryd.prog 30 #[.int .i64 n, .int .i64 by'] w1 fun x w' => x = .returned (.tuple #[.int .i64 (NumMath.outV (n + by')), .int .i64 (NumMath.outE (n + by'))]) ∧ w' = w1) := hid_of fun w1 => Arith.add_any n by' w1 hin hi
    cases hf : NumMath.fitB (n + by') with
    | true =>
      rw [NumMath.outV_pos hf, NumMath.outE_pos hf] at H2
      have HI : Hid (incrS l (bs s) n 0 by' = (withL l (bs s) (itoa (n + by')), n + by', 0)) := by show _ = _; unfold incrS; rw [if_pos rfl, if_pos hf]
      have HS := hid_of ((NumMath.fitB_iff _).1 hf)
      obtain ⟨S, hS⟩ : ∃ S, S = n + by' := ⟨_, rfl⟩
      rw [← hS] at H2 HI HS
      have H4 : Hid (∀ w1, Below w.heap.size w w1 → Calls Tryd.prog 31 #[.int .i64 S] w1 fun x w' => x = .returned (.string (mk (itoa S))) ∧ Below w1.heap.size w1 w') := hid_of fun w1 b1 => Print.print_any S w1 HS.out (HH.out.later b1).tab
      have H5 : Hid (∀ w1, Below w.heap.size w w1 → Calls Tryd.prog 12 #[ptr b, .string s, .string (mk (itoa S))] w1 fun x w' => x = .returned (.bool (!ok l (bs s))) ∧ DK b m (withL l (bs s) (itoa S)) w' ∧ Mv m w1 w') := hid_of fun w1 b1 => by
        have := set_call b m l s (mk (itoa S)) w1 (HD.out.below b1) hs (by rw [mk_size]; have := itoa_len S HS.out; omega) hn
        rw [bs_mk] at this
        exact this
      clear h hh hb HP hin hi hf hS
      unfold ptr at *
      generalize mk (itoa S) = T at *
      go_enter Tryd.func16, Tryd.ntmps16
      go_wp2_with fail
      refine H1.out.mono ?_
      rintro x w1 hw1
      obtain ⟨rfl, b1⟩ := hw1
      have H2' := hid_of (H2.out w1)
      have H4' := hid_of (H4.out w1 b1)
      have B1 := hid_of b1
      clear b1 H2 H4
      go_wp2_with fail
      refine H2'.out.mono ?_
      rintro x w2 hw2
      obtain ⟨rfl, rfl⟩ := hw2
      go_wp2_with fail
      refine H4'.out.mono ?_
      rintro x w3 hw3
      obtain ⟨rfl, b3⟩ := hw3
      have B3 := hid_of (bel B1.out b3 (Nat.le_refl _))
      have H5' := hid_of (H5.out w3 B3.out)
      clear b3 H5
      go_wp2_with fail
      refine H5'.out.mono ?_
      rintro x w4 hw4
      obtain ⟨rfl, d4, m4⟩ := hw4
      go_wp2_with fail
      go_ret2
      unfold IncE
      rw [HI.out]
      exact ⟨rfl, d4, (Mv.of_below B3.out HM.out).trans m4⟩
    | false =>
      rw [NumMath.outV_neg hf, NumMath.outE_neg hf] at H2
      have HI : Hid (incrS l (bs s) n 0 by' = (l, 0, 11)) := by show _ = _; unfold incrS; rw [if_pos rfl, if_neg (by rw [hf]; decide)]
      clear h hh hb HP hin hi hf
      unfold ptr at *
      go_enter Tryd.func16, Tryd.ntmps16
      go_wp2_with fail
      refine H1.out.mono ?_
      rintro x w1 hw1
      obtain ⟨rfl, b1⟩ := hw1
      have H2' := hid_of (H2.out w1)
      have B1 := hid_of b1
      clear b1 H2
      go_wp2_with fail
      refine H2'.out.mono ?_
      rintro x w2 hw2
      obtain ⟨rfl, rfl⟩ := hw2
      go_wp2_with fail
      go_ret2
      unfold IncE
      rw [HI.out]
      exact ⟨rfl, HD.out.below B1.out, Mv.of_below B1.out HM.out⟩
  · have HI : Hid (incrS l (bs s) n 10 by' = (l, 0, 10)) := by show _ = _; unfold incrS; rw [if_neg (by decide)]
    clear h hh hb HP hin hi
    unfold ptr at *
    go_enter Tryd.func16, Tryd.ntmps16
    go_wp2_with fail
    refine H1.out.mono ?_
    rintro x w1 hw1
    obtain ⟨rfl, b1⟩ := hw1
    have B1 := hid_of b1
    clear b1
    go_wp2_with fail
    go_ret2
    unfold IncE
    rw [HI.out]
    exact ⟨rfl, HD.out.below B1.out, Mv.of_below B1.out HM.out⟩
end Go.Proofs.YtolihcgpnoacaaaDoor.Incr
