/- How long what is read may be. -/
import Derived.Test.YtfkilbhhpipjbaaGreatDoorRefCount
namespace Go.Proofs.YtfkilbhhpipjbaaGreatDoor.WholeMath
open Go.Proofs.YtfkilbhhpipjbaaGreatDoor.TextMath
open Go.Proofs.YtfkilbhhpipjbaaGreatDoor.ReqMath
open Go.Proofs.YtfkilbhhpipjbaaGreatDoor.RefCount
set_option linter.unusedVariables false
theorem arr_len {L : Lim} : ∀ (k : Nat) (acc : List (List UInt8)) (l : List UInt8) (n : Nat) (ws : List (List UInt8)), arrS L k acc l = .done n ws → ws.length = acc.length + k := by
  intro k
  induction k with
  | zero =>
    intro acc l n ws h
    unfold arrS at h
    injection h with h1 h2
    rw [← h2]; rfl
  | succ k ih =>
    intro acc l n ws h
    unfold arrS at h
    cases hb : bulkS L l with
    | more => rw [hb] at h; cases h
    | fault x => rw [hb] at h; cases h
    | done m t =>
      rw [hb] at h
      dsimp only at h
      cases ha : arrS L k (acc ++ [t]) (l.drop m) with
      | more => rw [ha] at h; cases h
      | fault x => rw [ha] at h; cases h
      | done m2 ws2 =>
        rw [ha] at h
        have h2 := ih _ _ _ _ ha
        cases h
        rw [h2, List.length_append, List.length_singleton]
        omega
theorem thing_args {L : Lim} {l : List UInt8} {n : Nat} {ws : List (List UInt8)} (h : thingS L l = .done n ws) : ws.length ≤ L.args := by
  unfold thingS at h
  cases hl : lineS L.line l with
  | more => rw [hl] at h; cases h
  | long => rw [hl] at h; cases h
  | got x m =>
    rw [hl] at h
    dsimp only at h
    unfold firstS at h
    by_cases hx : x.headD 0 = 42
    · rw [if_pos hx] at h
      cases hk : countS L.args x.tail with
      | none => rw [hk] at h; cases h
      | some k =>
        rw [hk] at h
        dsimp only at h
        cases ha : arrS L k [] (l.drop m) with
        | more => rw [ha] at h; cases h
        | fault y => rw [ha] at h; cases h
        | done m2 ws2 =>
          rw [ha] at h
          have h2 := arr_len _ _ _ _ _ ha
          have h3 := (canon_of hk).2.2
          cases h
          simp at h2
          omega
    · rw [if_neg hx] at h
      unfold typedS at h
      cases hs : splitS x with
      | none => rw [hs] at h; cases h
      | some w2 =>
        rw [hs] at h
        dsimp only at h
        by_cases hq : L.args < w2.length ∨ w2.any (fun t => decide (L.bulk < t.length)) = true
        · rw [if_pos hq] at h; cases h
        · rw [if_neg hq] at h
          cases h
          have := fun h => hq (Or.inl h)
          omega
theorem next_args {L : Lim} : ∀ (N : Nat) (l : List UInt8), l.length ≤ N → ∀ k ws, nextS L l = .one k ws → ws.length ≤ L.args := by
  intro N
  induction N with
  | zero =>
    intro l hl k ws h
    cases ht : thingS L l with
    | more => rw [next_more ht] at h; cases h
    | fault x => rw [next_fault ht] at h; cases h
    | done n ws2 =>
      by_cases hw : ws2 = []
      · subst hw
        have := (thing_done ht []).1
        have := (thing_done ht []).2.1
        omega
      · rw [next_one ht hw] at h
        cases h
        exact thing_args ht
  | succ N ih =>
    intro l hl k ws h
    cases ht : thingS L l with
    | more => rw [next_more ht] at h; cases h
    | fault x => rw [next_fault ht] at h; cases h
    | done n ws2 =>
      by_cases hw : ws2 = []
      · subst hw
        have h1 := (thing_done ht []).1
        have h2 := (thing_done ht []).2.1
        rw [next_pass ht] at h
        have hd : (l.drop n).length = l.length - n := List.length_drop
        cases hn : nextS L (l.drop n) with
        | more j => rw [hn] at h; cases h
        | fault j x => rw [hn] at h; cases h
        | one j w3 =>
          rw [hn] at h
          cases h
          exact ih _ (by omega) _ _ hn
      · rw [next_one ht hw] at h
        cases h
        exact thing_args ht
theorem whole_args {L : Lim} : ∀ (N : Nat) (l : List UInt8), l.length ≤ N → (wholeS L l).reqs.length ≤ l.length ∧ ∀ r, r ∈ (wholeS L l).reqs → r.length ≤ L.args := by
  intro N
  induction N with
  | zero =>
    intro l hl
    cases hn : nextS L l with
    | more k => rw [whole_more hn]; exact ⟨Nat.zero_le _, fun r hr => by cases hr⟩
    | fault k x => rw [whole_fault hn]; exact ⟨Nat.zero_le _, fun r hr => by cases hr⟩
    | one k ws => have := next_le_one hn; omega
  | succ N ih =>
    intro l hl
    cases hn : nextS L l with
    | more k => rw [whole_more hn]; exact ⟨Nat.zero_le _, fun r hr => by cases hr⟩
    | fault k x => rw [whole_fault hn]; exact ⟨Nat.zero_le _, fun r hr => by cases hr⟩
    | one k ws =>
      obtain ⟨h1, h2, _⟩ := next_le_one hn
      have hd : (l.drop k).length = l.length - k := List.length_drop
      obtain ⟨i1, i2⟩ := ih (l.drop k) (by omega)
      rw [whole_one hn]
      refine ⟨by show (ws :: _).length ≤ _; rw [List.length_cons]; omega, fun r hr => ?_⟩
      rcases List.mem_cons.1 hr with rfl | hr
      · exact next_args _ l (Nat.le_refl _) _ _ hn
      · exact i2 r hr
end Go.Proofs.YtfkilbhhpipjbaaGreatDoor.WholeMath
