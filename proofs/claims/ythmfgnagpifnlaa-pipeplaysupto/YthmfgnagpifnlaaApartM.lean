/- Two networks that agree on their first connection. -/
import Derived.Test.YthmfgnagpifnlaaPipeMath
namespace Go.Proofs.Ythmfgnagpifnlaa.PipeMath
set_option linter.unusedVariables false
structure Tw (a b : Nt) : Prop where
  win : a.win = b.win
  same : a.at 0 = b.at 0
  one : ∃ k, a.at 0 = some k
  a1 : 1 ≤ a.acc
  b1 : 1 ≤ b.acc
theorem did_form (n : Nt) (o : Op) (h0 : o.kind ≠ 0) (h5 : o.kind ≠ 5) : (∃ f, n.did o = n.mod o.conn f) ∨ n.did o = n := by
  unfold Nt.did
  rw [if_neg h0]
  split
  · unfold Nt.send; split
    · exact Or.inl ⟨_, rfl⟩
    · exact Or.inr rfl
  split
  · unfold Nt.endC; split
    · exact Or.inl ⟨_, rfl⟩
    · exact Or.inr rfl
  split
  · unfold Nt.take; split
    · exact Or.inl ⟨_, rfl⟩
    · exact Or.inr rfl
  split
  · unfold Nt.cutC; split
    · exact Or.inl ⟨_, rfl⟩
    · exact Or.inr rfl
  split
  · unfold Nt.read; split
    · exact Or.inl ⟨_, rfl⟩
    · exact Or.inr rfl
  split
  · unfold Nt.write; split
    · exact Or.inl ⟨_, rfl⟩
    · exact Or.inr rfl
  split
  · unfold Nt.close; split
    · exact Or.inl ⟨_, rfl⟩
    · exact Or.inr rfl
  exact Or.inr rfl
theorem did_foreign {n : Nt} {o : Op} (h0 : o.kind ≠ 0) (h5 : o.kind ≠ 5) (hc : o.conn ≠ 0) : (n.did o).at 0 = n.at 0 ∧ (n.did o).win = n.win ∧ (n.did o).acc = n.acc := by
  rcases did_form n o h0 h5 with ⟨f, e⟩ | e
  · rw [e]
    have := mod_win n o.conn f
    exact ⟨by rw [mod_at, if_neg (fun x => hc x.symm)], this.1, this.2.1⟩
  · rw [e]; exact ⟨rfl, rfl, rfl⟩
theorem did_all {n : Nt} {o : Op} (h : o.kind = 0 ∨ o.kind = 5) {k : Cn} (hk : n.at 0 = some k) : (n.did o).at 0 = n.at 0 ∧ (n.did o).win = n.win ∧ n.acc ≤ (n.did o).acc := by
  unfold Nt.did
  rcases h with h | h
  · rw [if_pos h]
    unfold Nt.connect
    split
    · exact ⟨rfl, rfl, Nat.le_refl _⟩
    · refine ⟨?_, rfl, Nat.le_refl _⟩
      have e : n.cs[0]? = some k := hk
      show (n.cs ++ [cn0])[0]? = n.cs[0]?
      rw [List.getElem?_append_left (List.getElem?_eq_some_iff.1 e).1]
  · rw [h]
    simp only [show ¬ (5 : Int) = 0 by decide, show ¬ (5 : Int) = 1 by decide, show ¬ (5 : Int) = 2 by decide, show ¬ (5 : Int) = 3 by decide, show ¬ (5 : Int) = 4 by decide, if_false, if_true]
    unfold Nt.accept
    split
    · exact ⟨rfl, rfl, Nat.le_refl _⟩
    · exact ⟨rfl, rfl, Nat.le_succ _⟩
theorem Tw.left {a b : Nt} {o : Op} (h : Tw a b) (ho : o.kind = 0 ∨ o.kind = 5 ∨ o.conn ≠ 0) : Tw (a.did o) b := by
  obtain ⟨k, hk⟩ := h.one
  by_cases hd : o.kind = 0 ∨ o.kind = 5
  · obtain ⟨e1, e2, e3⟩ := did_all hd hk
    exact ⟨e2.trans h.win, e1.trans h.same, ⟨k, e1.trans hk⟩, Nat.le_trans h.a1 e3, h.b1⟩
  · obtain ⟨e1, e2, e3⟩ := did_foreign (n := a) (o := o) (fun e => hd (Or.inl e)) (fun e => hd (Or.inr e)) (ho.elim (fun e => absurd (Or.inl e) hd) (fun e => e.elim (fun e => absurd (Or.inr e) hd) id))
    exact ⟨e2.trans h.win, e1.trans h.same, ⟨k, e1.trans hk⟩, by rw [e3]; exact h.a1, h.b1⟩
theorem Tw.send {a b : Nt} (h : Tw a b) : a.sendE 0 = b.sendE 0 := by unfold Nt.sendE; rw [h.same]
theorem Tw.whole {a b : Nt} (h : Tw a b) : a.wholeE 0 = b.wholeE 0 := by unfold Nt.wholeE; rw [h.same]
theorem Tw.serve {a b : Nt} (h : Tw a b) : a.serveE 0 = b.serveE 0 := by
  unfold Nt.serveE
  rw [h.same]
  have h1 := h.a1
  have h2 := h.b1
  have e0 : (0 : Int).toNat = 0 := rfl
  cases b.at 0 with
  | none => rfl
  | some k =>
    have n1 : ¬ a.acc ≤ (0 : Int).toNat := by rw [e0]; omega
    have n2 : ¬ b.acc ≤ (0 : Int).toNat := by rw [e0]; omega
    dsimp only
    rw [if_neg n1, if_neg n2]
theorem Tw.mods {a b : Nt} (h : Tw a b) (f g : Cn → Cn) (hf : ∀ k, a.at 0 = some k → f k = g k) : Tw (a.mod 0 f) (b.mod 0 g) := by
  obtain ⟨k, hk⟩ := h.one
  have wa := mod_win a 0 f
  have wb := mod_win b 0 g
  refine ⟨by rw [wa.1, wb.1]; exact h.win, ?_, ⟨f k, by rw [mod_at, if_pos rfl, hk]; rfl⟩, by rw [wa.2.1]; exact h.a1, by rw [wb.2.1]; exact h.b1⟩
  rw [mod_at, mod_at, if_pos rfl, if_pos rfl, ← h.same, hk]
  show some (f k) = some (g k)
  rw [hf k hk]
theorem Tw.both {a b : Nt} {o : Op} (h : Tw a b) (h0 : o.kind ≠ 0) (h5 : o.kind ≠ 5) (hc : o.conn = 0) : Tw (a.did o) (b.did o) ∧ a.gotR o = b.gotR o ∧ a.gotW o = b.gotW o := by
  have hs := h.send
  have hw := h.whole
  have hv := h.serve
  have hsm := h.same
  refine ⟨?_, ?_, ?_⟩
  · unfold Nt.did
    rw [if_neg h0, if_neg h0, hc]
    split
    · unfold Nt.send
      rw [hs]
      split
      · exact h.mods _ _ fun k _ => rfl
      · exact h
    split
    · unfold Nt.endC
      rw [hs]
      split
      · exact h.mods _ _ fun k _ => rfl
      · exact h
    split
    · unfold Nt.take
      rw [hw]
      split
      · exact h.mods _ _ fun k _ => rfl
      · exact h
    split
    · unfold Nt.cutC
      rw [hw]
      split
      · exact h.mods _ _ fun k _ => rfl
      · exact h
    split
    · unfold Nt.read
      rw [hv]
      split
      · exact h.mods _ _ fun k _ => rfl
      · exact h
    split
    · unfold Nt.write
      rw [hv]
      split
      · refine h.mods _ _ fun k _ => ?_
        unfold Nt.fit
        rw [h.win]
      · exact h
    split
    · unfold Nt.close
      rw [hv]
      split
      · exact h.mods _ _ fun k _ => rfl
      · exact h
    exact h
  · unfold Nt.gotR Nt.read
    rw [hc, hv, hsm]
    split
    · split <;> rfl
    · rfl
  · unfold Nt.gotW Nt.write Nt.fit
    rw [hc, hv, hsm, h.win]
    split
    · split <;> rfl
    · rfl
theorem Tw.room {a b : Nt} (h : Tw a b) : a.room 0 = b.room 0 := by unfold Nt.room; rw [h.serve, h.same, h.win]
theorem Tw.sentA {a b : Nt} (h : Tw a b) : a.sentA 0 = b.sentA 0 := by unfold Nt.sentA; rw [h.same]
theorem Tw.taken {a b : Nt} (h : Tw a b) : a.taken 0 = b.taken 0 := by unfold Nt.taken; rw [h.same]
end Go.Proofs.Ythmfgnagpifnlaa.PipeMath
