/- The document's Due; like. -/
import Derived.Test.YtiaggddpoddbcaaDo
import Derived.Test.YtiaggddpoddbcaaNextS
namespace Go.Proofs.Ytiaggddpoddbcaa.RefU
open Go.RowKit Go.Maps Go.Shelf
open Go.Proofs.Ytiaggddpoddbcaa.HeapMath
open Go.Proofs.Ytiaggddpoddbcaa.Heap
open Go.Proofs.Ytiaggddpoddbcaa.Turn
open Go.Proofs.Ytiaggddpoddbcaa.Before
open Go.Proofs.Ytiaggddpoddbcaa.RowB
open Go.Proofs.Ytiaggddpoddbcaa.IndexS
open Go.Proofs.Ytiaggddpoddbcaa.Peek
open Go.Proofs.Ytiaggddpoddbcaa.Take
open Go.Proofs.Ytiaggddpoddbcaa.NewS
open Go.Proofs.Ytiaggddpoddbcaa.Awake
open Go.Proofs.Ytiaggddpoddbcaa.RefP
open Go.Proofs.Ytiaggddpoddbcaa.RefD
open Go.Proofs.Ytiaggddpoddbcaa.SortM
open Go.Proofs.Ytiaggddpoddbcaa.Both
open Go.Proofs.Ytiaggddpoddbcaa.Do
set_option linter.unusedVariables false
set_option linter.unusedSimpArgs false
/-- a key's tick, if it is there -/
def tk (S : Es) (k : Bs) : Int × Bool := match S.find? (fun x => x.1 == k) with
  | some x => (x.2, true)
  | none => (0, false)
theorem tk_at {S : Es} {k : Bs} {i : Nat} (hi : i < S.length) (hp : ∀ j (hj : j < S.length), j < i → S[j].1 ≠ k) (e : S[i].1 = k) : tk S k = (S[i].2, true) := by
  have : S.find? (fun x => x.1 == k) = some S[i] := by
    rw [List.find?_eq_some_iff_getElem]
    refine ⟨by simp [e], i, hi, rfl, fun j hj => ?_⟩
    have := hp j (by omega) hj
    simpa using this
  unfold tk
  rw [this]
theorem tk_no {S : Es} {k : Bs} (hp : ∀ j (hj : j < S.length), S[j].1 ≠ k) : tk S k = (0, false) := by
  have : S.find? (fun x => x.1 == k) = none := by
    rw [List.find?_eq_none]
    intro x hx
    obtain ⟨j, hj, rfl⟩ := List.getElem_of_mem hx
    simpa using hp j hj
  unfold tk
  rw [this]
set_option maxHeartbeats 2000000 in
set_option maxRecDepth 100000 in
theorem rdue_call {y : Nat} {S : Es} {w : World} (h : RY y w S) (hl : S.length < 1099511627776) (key : Bs) :
    Calls Try.prog 33 #[ptr y, .string (mk key)] w fun e w' => e = .returned (.tuple #[.int .i64 (tk S key).1, .bool (tk S key).2]) ∧ Below w.heap.size w w' := by
  obtain ⟨v, h1, a, c, rfl, hc, h2⟩ := h
  have cy : w.cell? ⟨y, 0, none⟩ = some (.slice a S.length c) := Lib.cell_of_heap h1 0
  have HY := hid_of (And.intro cy h2)
  obtain ⟨N, HN⟩ : ∃ N, Hid (N = S.length) := ⟨_, hid_of rfl⟩
  rw [← HN.out] at cy
  have hNb : N < 1099511627776 := by rw [HN.out]; exact hl
  obtain ⟨R, HR⟩ : ∃ R, Hid (R = tk S key) := ⟨_, hid_of rfl⟩
  rw [← HR.out]
  clear h1 h2 hl hc
  unfold ptr
  go_enter Try.func33, Try.ntmps33
  go_wp2_with fail
  go_loopg [6] N (fun gk s6 wx => ∃ k : Nat, k + gk = N ∧ s6 = .int .i64 (k : Int) ∧ Hid (∀ j (hj : j < S.length), j < k → S[j].1 ≠ key) ∧ Hid (Below w.heap.size w wx ∧ wx.cell? ⟨y, 0, none⟩ = some (.slice a N c)))
  case atStart => exact ⟨0, by omega, rfl, hid_of fun j hj h => absurd h (Nat.not_lt_zero _), hid_of ⟨Below.refl _ _, cy⟩⟩
  case round =>
    obtain ⟨k, hk, rfl, HP, HB⟩ := hrel
    have cw := HB.out.2
    clear cy
    by_cases hlt : k < N
    · have hks : k < S.length := by rw [← HN.out]; exact hlt
      obtain ⟨g, o, rfl, q1, q2, -⟩ := HY.out.2 k hks
      have p1 := (HB.out.1.cell (block_lt_of_cell q1)).trans q1
      have p2 := (HB.out.1.cell (block_lt_of_cell q2)).trans q2
      have d1 : (k : Int) < (N : Int) := by omega
      have e2 : IntKind.i64.wrap ((k : Int) + 1) = (k : Int) + 1 := IntWalk.i64_in _ (by omega)
      have hq := str_eq S[k].1 key
      by_cases he : S[k].1 = key
      · have HT := hid_of (tk_at hks HP.out he)
        rw [decide_eq_true he] at hq
        clear he q1 q2
        generalize mk S[k].1 = X at *
        generalize mk key = KK at *
        generalize S[k].2 = t at *
        go_wp2_with fail
        go_ret2
        exact ⟨by rw [HR.out, HT.out]; rfl, HB.out.1⟩
      · have HN2 : Hid (∀ j (hj : j < S.length), j < k + 1 → S[j].1 ≠ key) := hid_of fun j hj h => by
          rcases Nat.lt_or_ge j k with q | q
          · exact HP.out j hj q
          · have e : j = k := by omega
            subst e
            exact he
        rw [decide_eq_false he] at hq
        clear he q1 q2
        generalize mk S[k].1 = X at *
        generalize mk key = KK at *
        generalize S[k].2 = t at *
        go_wp2_with fail
        go_roundg (gk - 1)
        case rel => exact ⟨k + 1, by omega, by rw [show ((k + 1 : Nat) : Int) = (k : Int) + 1 from by omega], HN2, HB⟩
        case measure => omega
    · have d1 : ¬ (k : Int) < (N : Int) := by omega
      have HT := hid_of (tk_no (S := S) (k := key) fun j hj => HP.out j hj (by have := HN.out; omega))
      go_wp2_with fail
      go_ret2
      exact ⟨by rw [HR.out, HT.out]; rfl, HB.out.1⟩
/-- the program's Due tells the same -/
theorem due_pr {base b y : Nat} {s S : Es} {w : World} (h : PR base b y w s S) (key : Bs) (hk : key.length ≤ 281474976710656) :
    Calls Try.prog 26 #[ptr b, .string (mk key)] w fun e w' => e = .returned (.tuple #[.int .i64 (tk S key).1, .bool (tk S key).2]) ∧ w' = w := by
  refine (IndexS.due_call h.ix key hk).mono ?_
  rintro e w' ⟨t, q, rfl, hor, rfl⟩
  refine ⟨?_, rfl⟩
  rcases hor with ⟨rfl, hm⟩ | ⟨rfl, rfl, hno⟩
  · have hm2 : (key, t) ∈ S := h.srt.perm.mem_iff.2 hm
    obtain ⟨i, hi, e⟩ := List.getElem_of_mem hm2
    have : tk S key = (t, true) := by
      unfold tk
      cases hf : S.find? (fun x => x.1 == key) with
      | none =>
        have := List.find?_eq_none.1 hf _ hm2
        simp at this
      | some x =>
        have hx : x ∈ S := List.mem_of_find?_eq_some hf
        have hxk : x.1 = key := by simpa using List.find?_some hf
        have := ix_key h.ix (h.srt.perm.mem_iff.1 hx) hm hxk
        rw [this]
    rw [this]
  · rw [tk_no fun j hj => hno _ (h.srt.perm.mem_iff.1 (List.getElem_mem hj))]
end Go.Proofs.Ytiaggddpoddbcaa.RefU
