/- like: the program's index tells what the document's does. -/
import Derived.Test.YtiaggddpoddbcaaRefU
import Derived.BigQuiet
namespace Go.Proofs.Ytiaggddpoddbcaa.LikeU
open Go.RowKit Go.Maps Go.Shelf
open Go.Proofs.Ytiaggddpoddbcaa.HeapMath
open Go.Proofs.Ytiaggddpoddbcaa.Heap
open Go.Proofs.Ytiaggddpoddbcaa.Turn
open Go.Proofs.Ytiaggddpoddbcaa.Before
open Go.Proofs.Ytiaggddpoddbcaa.RowB
open Go.Proofs.Ytiaggddpoddbcaa.IndexS
open Go.Proofs.Ytiaggddpoddbcaa.Peek
open Go.Proofs.Ytiaggddpoddbcaa.Take
open Go.Proofs.Ytiaggddpoddbcaa.NewS
open Go.Proofs.Ytiaggddpoddbcaa.Awake
open Go.Proofs.Ytiaggddpoddbcaa.RefP
open Go.Proofs.Ytiaggddpoddbcaa.RefD
open Go.Proofs.Ytiaggddpoddbcaa.SortM
open Go.Proofs.Ytiaggddpoddbcaa.Both
open Go.Proofs.Ytiaggddpoddbcaa.Do
open Go.Proofs.Ytiaggddpoddbcaa.RefU
set_option linter.unusedVariables false
set_option linter.unusedSimpArgs false
/-- Next tells the first -/
theorem next_pr {base b y : Nat} {s S : Es} {w : World} (h : PR base b y w s S) :
    Calls Try.prog 24 #[ptr b] w fun e w' => ((∃ x r, S = x :: r ∧ e = .returned (.tuple #[.string (mk x.1), .int .i64 x.2, .bool true])) ∨ (S = [] ∧ e = .returned (.tuple #[.string (mk []), .int .i64 0, .bool false]))) ∧ Below w.heap.size w w' := by
  refine (NextS.next_call h.ix).mono ?_
  rintro e w' ⟨hor, hb⟩
  refine ⟨?_, hb⟩
  rcases hor with ⟨x, hx, hmin, rfl⟩ | ⟨hs, rfl⟩
  · left
    have hx2 : x ∈ S := h.srt.perm.mem_iff.2 hx
    cases S with
    | nil => cases hx2
    | cons z r =>
      refine ⟨z, r, rfl, ?_⟩
      have : x = z := by
        rcases List.mem_cons.1 hx2 with e | e
        · exact e
        · exfalso
          have := (List.pairwise_cons.1 h.srt.inc).1 x e
          exact hmin z (h.srt.perm.mem_iff.1 (by simp)) this
      rw [this]
  · right
    have := h.srt.perm
    rw [hs] at this
    exact ⟨this.eq_nil, rfl⟩
set_option maxHeartbeats 4000000 in
set_option maxRecDepth 100000 in
theorem like_call {base b y : Nat} {s S : Es} {w : World} (h : PR base b y w s S) (hl : S.length < 1099511627776) (key : Bs) (hk : key.length ≤ 281474976710656) :
    Calls Try.prog 11 #[ptr b, ptr y, .string (mk key)] w fun e w' => e = .returned (.bool true) ∧ Below w.heap.size w w' := by
  have H1 := hid_of (due_pr h key hk)
  have H2 := hid_of (rdue_call h.ry hl key)
  have HPR := hid_of h
  have hsl := ry_len h
  generalize hT : tk S key = T at *
  obtain ⟨t, q⟩ := T
  have H3 := hid_of fun (V : World) (k : Below w.heap.size w V) => next_pr (h.below k)
  have H4 : Hid (∀ V, Below w.heap.size w V → Calls Try.prog 29 #[.pointer (some ⟨b, 0, none⟩)] V fun e w' => e = .returned (.int .i64 (S.length : Int)) ∧ w' = V) := hid_of fun V k => by
    have q := ix_len (h.below k).ix
    rw [← hsl] at q
    exact q
  have HY : Hid (∀ V, Below w.heap.size w V → ∃ a c, V.cell? ⟨y, 0, none⟩ = some (.slice a S.length c) ∧ ∀ i (hi : i < S.length), ∃ g o, a = some ⟨g, o, none⟩ ∧ V.cell? ⟨g, o + i * 2, none⟩ = some (.string (mk S[i].1)) ∧ V.cell? ⟨g, o + i * 2 + 1, none⟩ = some (.int .i64 S[i].2)) := hid_of fun V k => by
    obtain ⟨v, h1, a, c, rfl, hc, h2⟩ := (h.below k).ry
    refine ⟨a, c, Lib.cell_of_heap h1 0, fun i hi => ?_⟩
    obtain ⟨g, o, e, q1, q2, -⟩ := h2 i hi
    exact ⟨g, o, e, q1, q2⟩
  clear h hsl hT
  unfold ptr at *
  go_enter Try.func11, Try.ntmps11
  go_wp2_with fail
  refine H1.out.mono ?_
  rintro e w1 ⟨rfl, hw1⟩
  rw [hw1]
  clear hw1
  go_wp2_with fail
  refine H2.out.mono ?_
  rintro e w2 ⟨rfl, b2⟩
  have B2 := hid_of b2
  clear b2
  go_wp2_with fail
  refine (H3.out _ B2.out).mono ?_
  rintro e w3 ⟨hor, b3⟩
  have B3 := hid_of (B2.out.trans (b3.mono B2.out.size))
  obtain ⟨ya, yc, cy, hcs⟩ := HY.out _ (B3.out.trans ((Below.refl _ w3).drew.mono B3.out.size))
  have HL4 : Hid (∀ m, Calls Try.prog 29 #[.pointer (some ⟨b, 0, none⟩)] (w3.drewN m) fun e w' => e = .returned (.int .i64 (S.length : Int)) ∧ w' = w3.drewN m) := hid_of fun m => H4.out _ (B3.out.trans ((⟨rfl, rfl, rfl, Nat.le_refl _, fun _ _ => rfl⟩ : Below w3.heap.size w3 (w3.drewN m)).mono B3.out.size))
  clear b3 H1 H2 H3 H4
  rcases hor with ⟨x, r, rfl, rfl⟩ | ⟨rfl, rfl⟩
  · obtain ⟨g, o, rfl, q1, q2⟩ := hcs 0 (by simp)
    rw [show ((x :: r)[0]'(by simp)) = x from rfl] at q1 q2
    rw [show o + 0 * 2 = o from rfl] at q1 q2
    have hx2 : (x :: r).length = r.length + 1 := rfl
    obtain ⟨N, HN⟩ : ∃ N, Hid (N = r.length + 1) := ⟨_, hid_of rfl⟩
    rw [hx2, ← HN.out] at cy HL4
    have hN0 : (0 : Int) < (N : Int) := by rw [HN.out]; omega
    have hN1 : decide ((N : Int) > 0) = true := decide_eq_true hN0
    have hN2 : decide ((0 : Int) < (N : Int)) = true := decide_eq_true hN0
    have hN3 : 0 < N := by rw [HN.out]; omega
    have hN4 : decide (0 < N) = true := decide_eq_true hN3
    have hNN : ((N : Int) != (N : Int)) = false := by simp
    have htt : (t != t) = false := by simp
    have hqq : (q != q) = false := by simp
    clear hcs hx2
    generalize mk x.1 = X at *
    generalize x.2 = tx at *
    have cy3 : w3.cell? ⟨y, 0, none⟩ = some (.slice (some ⟨g, o, none⟩) N yc) := cy
    have q13 : w3.cell? ⟨g, o, none⟩ = some (.string X) := q1
    have q23 : w3.cell? ⟨g, o + 1, none⟩ = some (.int .i64 tx) := q2
    have hXX : (X.toList == X.toList) = true := by simp
    have hxx : (tx == tx) = true := by simp
    clear cy q1 q2
    have hmm : True := trivial
    go_wp2_with fail
    go_quiet (first | exact (HL4.out _).mono fun _ _ h => ⟨h.1, _, h.2⟩)
    go_wp2_with fail
    go_ret
    exact ⟨by first | rfl | simp [hmm], B3.out.trans ((⟨rfl, rfl, rfl, Nat.le_refl _, fun _ _ => rfl⟩ : Below w3.heap.size w3 (w3.drewN nq)).mono B3.out.size)⟩
  · have cy3 : w3.cell? ⟨y, 0, none⟩ = some (.slice ya 0 yc) := cy
    have htt : (t != t) = false := by simp
    have hqq : (q != q) = false := by simp
    have hmt : (mk []).toList = [] := by first | kernel_rfl | simp [mk, ByteArray.toList]
    rw [show (([] : Es).length : Int) = 0 from rfl] at HL4
    clear cy hcs
    have hmm : True := trivial
    go_wp2_with fail
    go_quiet (first | exact (HL4.out _).mono fun _ _ h => ⟨h.1, _, h.2⟩)
    go_wp2_with fail
    go_ret
    exact ⟨by first | rfl | simp [hmm], B3.out.trans ((⟨rfl, rfl, rfl, Nat.le_refl _, fun _ _ => rfl⟩ : Below w3.heap.size w3 (w3.drewN nq)).mono B3.out.size)⟩
end Go.Proofs.Ytiaggddpoddbcaa.LikeU
