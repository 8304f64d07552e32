/- What was read is a beginning of what was sent, what was taken one of what was written. -/
import Derived.Test.YthmfgnagpifnlaaApartM
namespace Go.Proofs.Ythmfgnagpifnlaa.PipeMath
set_option linter.unusedVariables false
def up8 (R : Nat → Bs) (c : Nat) (t : Bs) : Nat → Bs := fun i => if i = c then R c ++ t else R i
structure BI (n : Nt) (R W : Nat → Bs) : Prop where
  no : ∀ c : Nat, n.at (c : Int) = none → R c = [] ∧ W c = []
  yes : ∀ (c : Nat) k, n.at (c : Int) = some k → R c = k.sent.take k.rd ∧ k.wrote <+: W c ∧ (k.cut = false → k.wrote = W c)
theorem up8_nil (R : Nat → Bs) (c : Nat) : up8 R c [] = R := by
  funext i
  unfold up8
  split
  · rename_i h; rw [h, List.append_nil]
  · rfl
theorem BI.mod {n : Nt} {R W : Nat → Bs} (h : BI n R W) (c : Nat) (f : Cn → Cn) (r w : Bs) (hn : n.at (c : Int) = none → r = [] ∧ w = [])
    (hf : ∀ k, n.at (c : Int) = some k → R c = k.sent.take k.rd → k.wrote <+: W c → (k.cut = false → k.wrote = W c) → R c ++ r = (f k).sent.take (f k).rd ∧ (f k).wrote <+: W c ++ w ∧ ((f k).cut = false → (f k).wrote = W c ++ w)) : BI (n.mod (c : Int) f) (up8 R c r) (up8 W c w) := by
  refine ⟨fun i hi => ?_, fun i k hi => ?_⟩
  · rw [mod_at] at hi
    unfold up8
    by_cases e : i = c
    · subst e
      rw [if_pos rfl] at hi
      have hn0 : n.at (i : Int) = none := by
        cases hx : n.at (i : Int) with
        | none => rfl
        | some k => rw [hx] at hi; cases hi
      have h1 := h.no i hn0
      have h2 := hn hn0
      rw [if_pos rfl, if_pos rfl, h1.1, h1.2, h2.1, h2.2]
      exact ⟨rfl, rfl⟩
    · rw [if_neg (by omega)] at hi
      rw [if_neg e, if_neg e]
      exact h.no i hi
  · rw [mod_at] at hi
    unfold up8
    by_cases e : i = c
    · subst e
      rw [if_pos rfl] at hi
      cases hx : n.at (i : Int) with
      | none => rw [hx] at hi; cases hi
      | some k0 =>
        rw [hx] at hi
        have hi : some (f k0) = some k := hi
        injection hi with hi
        subst hi
        obtain ⟨h1, h2, h3⟩ := h.yes i k0 hx
        rw [if_pos rfl, if_pos rfl]
        exact hf k0 hx h1 h2 h3
    · rw [if_neg (by omega)] at hi
      rw [if_neg e, if_neg e]
      exact h.yes i k hi
theorem take_more (l : Bs) (a x : Nat) : l.take a ++ (l.drop a).take x = l.take (a + x) := by
  rw [List.take_add]
theorem BI.did {n : Nt} {R W : Nat → Bs} (hok : Ok n) (h : BI n R W) (kind num : Int) (c : Nat) (d : Bs) : BI (n.did ⟨kind, (c : Int), num, d⟩) (up8 R c (n.gotR ⟨kind, (c : Int), num, d⟩)) (up8 W c (n.gotW ⟨kind, (c : Int), num, d⟩)) := by
  have same : BI n (up8 R c []) (up8 W c []) := by rw [up8_nil, up8_nil]; exact h
  have flag : ∀ f : Cn → Cn, (∀ k, n.at (c : Int) = some k → k.sent.take k.rd = (f k).sent.take (f k).rd ∧ (f k).wrote <+: k.wrote ∧ ((f k).cut = false → k.cut = false ∧ (f k).wrote = k.wrote)) → BI (n.mod (c : Int) f) (up8 R c []) (up8 W c []) := fun f hf => h.mod c f [] [] (fun _ => ⟨rfl, rfl⟩) fun k hk h1 h2 h3 => by
    obtain ⟨a1, a2, a3⟩ := hf k hk
    rw [List.append_nil, List.append_nil]
    exact ⟨h1.trans a1, a2.trans h2, fun e => (a3 e).2.trans (h3 (a3 e).1)⟩
  by_cases k6 : kind = 6
  · subst k6
    have e1 : n.did ⟨6, (c : Int), num, d⟩ = (n.read (c : Int) num).1 := rfl
    have e2 : n.gotR ⟨6, (c : Int), num, d⟩ = (n.read (c : Int) num).2.1 := rfl
    have e3 : n.gotW ⟨6, (c : Int), num, d⟩ = [] := rfl
    rw [e1, e2, e3]
    unfold Nt.read
    split
    · refine h.mod c _ _ [] (fun hn => ⟨by rw [hn]; rfl, rfl⟩) fun k hk h1 h2 h3 => ?_
      rw [hk, h1, List.append_nil]
      exact ⟨take_more _ _ _, h2, h3⟩
    · exact same
  by_cases k7 : kind = 7
  · subst k7
    have e1 : n.did ⟨7, (c : Int), num, d⟩ = (n.write (c : Int) d).1 := rfl
    have e2 : n.gotR ⟨7, (c : Int), num, d⟩ = [] := rfl
    have e3 : n.gotW ⟨7, (c : Int), num, d⟩ = d.take (n.write (c : Int) d).2.1.toNat := rfl
    rw [e1, e2, e3]
    unfold Nt.write
    split
    · rename_i he
      cases hx : n.at (c : Int) with
      | none =>
        unfold Nt.serveE at he
        rw [hx] at he
        cases he
      | some k0 =>
        have hcut := (serve_cut hx he).1
        refine h.mod c _ [] _ (fun hn => by rw [hx] at hn; cases hn) fun k hk h1 h2 h3 => ?_
        rw [hx] at hk
        injection hk with hk
        subst hk
        have e4 : W c = k0.wrote := (h3 hcut).symm
        rw [List.append_nil]
        refine ⟨h1, ?_, fun _ => ?_⟩
        · rw [e4]; exact List.prefix_refl _
        · rw [e4]; rfl
    · exact same
  have g1 : n.gotR ⟨kind, (c : Int), num, d⟩ = [] := if_neg k6
  have g2 : n.gotW ⟨kind, (c : Int), num, d⟩ = [] := if_neg k7
  rw [g1, g2]
  unfold Nt.did
  dsimp only
  split
  · rw [up8_nil, up8_nil]
    unfold Nt.connect
    split
    · exact h
    · refine ⟨fun i hi => ?_, fun i k hi => ?_⟩
      · rw [at_nat] at hi
        refine h.no i ?_
        rw [at_nat]
        have hi : (n.cs ++ [cn0])[i]? = none := hi
        have := List.getElem?_eq_none_iff.1 hi
        simp at this
        exact List.getElem?_eq_none (by omega)
      · rw [at_nat] at hi
        have hi : (n.cs ++ [cn0])[i]? = some k := hi
        by_cases hl : i < n.cs.length
        · rw [List.getElem?_append_left hl] at hi
          exact h.yes i k (by rw [at_nat]; exact hi)
        · have hlt := (List.getElem?_eq_some_iff.1 hi).1
          simp at hlt
          obtain rfl : i = n.cs.length := by omega
          rw [List.getElem?_append_right (Nat.le_refl _), Nat.sub_self] at hi
          injection hi with hi
          subst hi
          have := h.no n.cs.length (by rw [at_nat]; exact List.getElem?_eq_none (Nat.le_refl _))
          rw [this.1, this.2]
          exact ⟨rfl, List.prefix_refl _, fun _ => rfl⟩
  split
  · unfold Nt.send
    split
    · refine flag _ fun k hk => ⟨?_, List.prefix_refl _, fun e => ⟨e, rfl⟩⟩
      have := (hok.at hk).rd
      show k.sent.take k.rd = (k.sent ++ d).take k.rd
      rw [List.take_append_of_le_length this]
    · exact same
  split
  · unfold Nt.endC
    split
    · exact flag _ fun k hk => ⟨rfl, List.prefix_refl _, fun e => ⟨e, rfl⟩⟩
    · exact same
  split
  · unfold Nt.take
    split
    · exact flag _ fun k hk => ⟨rfl, List.prefix_refl _, fun e => ⟨e, rfl⟩⟩
    · exact same
  split
  · unfold Nt.cutC
    split
    · exact flag _ fun k hk => ⟨rfl, List.take_prefix _ _, fun e => by cases (show true = false from e)⟩
    · exact same
  split
  · rw [up8_nil, up8_nil]
    unfold Nt.accept
    split
    · exact h
    · exact ⟨h.no, h.yes⟩
  split
  · unfold Nt.close
    split
    · exact flag _ fun k hk => ⟨rfl, List.prefix_refl _, fun e => ⟨e, rfl⟩⟩
    · exact same
  exact same
theorem bi_new (N : Nat) : BI ⟨N, [], 0⟩ (fun _ => []) (fun _ => []) := ⟨fun _ _ => ⟨rfl, rfl⟩, fun c k hk => by rw [at_nat] at hk; cases hk⟩
/- what is asked at the end -/
theorem BI.ends {n : Nt} {R W : Nat → Bs} (h : BI n R W) (c : Nat) : R c <+: n.sentA (c : Int) ∧ n.taken (c : Int) <+: W c := by
  unfold Nt.sentA Nt.taken
  cases hx : n.at (c : Int) with
  | none => rw [(h.no c hx).1, (h.no c hx).2]; exact ⟨List.prefix_refl _, List.prefix_refl _⟩
  | some k =>
    obtain ⟨h1, h2, _⟩ := h.yes c k hx
    rw [h1]
    exact ⟨List.take_prefix _ _, (List.take_prefix _ _).trans h2⟩
/- sizes -/
theorem gotW_len (n : Nt) (o : Op) : (n.gotW o).length ≤ o.data.length := by
  unfold Nt.gotW
  split
  · rw [List.length_take]; exact Nat.min_le_right _ _
  · exact Nat.zero_le _
theorem up8_len {W : Nat → Bs} {M m : Nat} (h : ∀ c, (W c).length ≤ M) (c : Nat) (t : Bs) (ht : t.length ≤ m) : ∀ i, (up8 W c t i).length ≤ M + m := fun i => by
  unfold up8
  have := h i
  have := h c
  split
  · rw [List.length_append]; omega
  · omega
theorem BI.rlen {n : Nt} {R W : Nat → Bs} {M : Nat} (h : BI n R W) (hb : Big n M) (c : Nat) : (R c).length ≤ M := by
  cases hx : n.at (c : Int) with
  | none => rw [(h.no c hx).1]; exact Nat.zero_le _
  | some k =>
    rw [(h.yes c k hx).1, List.length_take]
    have := (hb.at hx).1
    omega
theorem gotR_len {n : Nt} {M : Nat} (hb : Big n M) (o : Op) : (n.gotR o).length ≤ M := by
  unfold Nt.gotR
  split
  · unfold Nt.read
    split
    · cases hx : n.at o.conn with
      | none => exact Nat.zero_le _
      | some k =>
        show (k.reads o.num).length ≤ M
        unfold Cn.reads
        have := (hb.at hx).1
        rw [List.length_take, List.length_drop]
        omega
    · exact Nat.zero_le _
  · exact Nat.zero_le _
theorem took_all {n : Nt} {R W : Nat → Bs} (h : BI n R W) (hok : Ok n) (c : Nat) {k : Cn} (hk : n.at (c : Int) = some k) (hc : k.cut = false) : (n.taken (c : Int)).length + k.left = (W c).length := by
  have h1 := (hok.at hk).tk
  have h2 := (h.yes c k hk).2.2 hc
  unfold Nt.taken
  rw [hk, ← h2]
  show (k.wrote.take k.tk).length + (k.wrote.length - k.tk) = _
  rw [List.length_take]
  omega
end Go.Proofs.Ythmfgnagpifnlaa.PipeMath
