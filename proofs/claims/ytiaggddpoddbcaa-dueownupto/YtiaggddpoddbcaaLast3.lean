/- The same, where the last operation waits for the others over many between: what it waits for is reckoned in one pass. -/
import Derived.Test.YtiaggddpoddbcaaLast2
namespace Go.Proofs.Ytiaggddpoddbcaa.Last
open Go
section
variable {P : Program} {ops : Array Oper} {Q : Exit → Act → World → Prop} {md : Region.Mode} {S : World → Prop} {L : Nat}
def edges (md : Region.Mode) (ops : Array Oper) (j : Nat) : List Nat := match ops[j]? with
  | some o => (o.after.toList.filter (fun e => Region.binds md e)).map (fun e => e.on)
  | none => []
def rch (md : Region.Mode) (ops : Array Oper) : List Nat → List Nat → List Nat
  | [], m => m
  | j :: js, m => rch md ops js (if m.contains j then edges md ops j ++ m else m)
def needs3 (md : Region.Mode) (ops : Array Oper) (L i : Nat) : Bool := (i != L) && (rch md ops ((List.range (L + 1)).reverse) [L]).contains i
theorem edges_in {listed : Array Bool} (hc : Closed md ops listed) {j : Nat} (h : j = L ∨ listed.getD j false = true) {oL : Oper} (hL : ops[L]? = some oL) (hall : ∀ e ∈ oL.after, Region.binds md e = true → listed.getD e.on false = true) : ∀ k ∈ edges md ops j, listed.getD k false = true := by
  intro k hk
  unfold edges at hk
  split at hk
  · rename_i o ho
    obtain ⟨e, he, rfl⟩ := List.mem_map.1 hk
    obtain ⟨he1, he2⟩ := List.mem_filter.1 he
    rcases h with rfl | h
    · rw [hL] at ho
      cases ho
      exact hall e (by simpa using he1) he2
    · exact hc j o ho h e (by simpa using he1) he2
  · cases hk
theorem rch_spec {listed : Array Bool} (hc : Closed md ops listed) {oL : Oper} (hL : ops[L]? = some oL) (hall : ∀ e ∈ oL.after, Region.binds md e = true → listed.getD e.on false = true) :
    ∀ (js m : List Nat), (∀ k ∈ m, k = L ∨ listed.getD k false = true) → ∀ k ∈ rch md ops js m, k = L ∨ listed.getD k false = true
  | [], m, h => h
  | j :: js, m, h => by
    unfold rch
    refine rch_spec hc hL hall js _ ?_
    split
    · rename_i hj
      have hj' := h j (by simpa using hj)
      intro k hk
      rcases List.mem_append.1 hk with q | q
      · exact .inr (edges_in hc hj' hL hall k q)
      · exact h k q
    · exact h
theorem needs3_spec {listed : Array Bool} (hc : Closed md ops listed) {i : Nat} {oL : Oper} (h : needs3 md ops L i = true) (hL : ops[L]? = some oL) (hall : ∀ e ∈ oL.after, Region.binds md e = true → listed.getD e.on false = true) : listed.getD i false = true := by
  unfold needs3 at h
  simp only [Bool.and_eq_true, bne_iff_ne] at h
  rcases rch_spec hc hL hall _ [L] (fun k hk => .inl (List.mem_singleton.1 hk)) i (by simpa using h.2) with q | q
  · exact absurd q h.1
  · exact q
theorem wpAnyE_first3 {i : Nat} {oi : Oper} {v : Value} (hi : ops[i]? = some oi) (hsel : ∀ (j : Nat) (o : Oper) cs b, ops[j]? = some o → o.op ≠ .select cs b)
    (hQ : ∀ c a w, Q (.panic c) (a.put oi.dst v) w → Q (.panic c) a w) (hL : needs3 md ops L i = true) :
    ∀ (fuel : Nat) (listed : Array Bool) (a : Act) (w : World), Closed md ops listed →
      (∀ j oj, ops[j]? = some oj → j ≠ i → listed.getD j true = false → (∀ e ∈ oj.after, Region.binds md e = true → e.on ≠ i) → oi.apart ops oj = true) →
      i ∈ Region.ready md ops listed → YieldsIf P ops S oi v a → S w →
      wpAnyE P md ops Q S L fuel (listed.setIfInBounds i true) (a.put oi.dst v) w → wpAnyE P md ops Q S L (fuel + 1) listed a w := by
  intro fuel
  induction fuel with
  | zero =>
    intro listed a w _ _ hr hy hS H
    refine ⟨fun h => (by rw [h] at hr; cases hr), fun j hj => ?_⟩
    by_cases hji : j = i
    · subst hji; exact hy.wpOp hi hS ⟨fun _ => hS, H⟩
    · have := ready_mono hj hji
      rw [H.1] at this
      cases this
  | succ fuel ih =>
    intro listed a w hcl hfree hr hy hS H
    refine ⟨fun h => (by rw [h] at hr; cases hr), fun j hj => ?_⟩
    by_cases hji : j = i
    · subst hji; exact hy.wpOp hi hS ⟨fun _ => hS, H⟩
    · have h1 := H.2 j (ready_mono hj hji)
      obtain ⟨hjun, oj, hoj, hall⟩ := mem_ready.1 hj
      have hun : ¬ listed.getD i false = true := fun h1 => by
        have h0 := (mem_ready.1 hr).1
        rcases Nat.lt_or_ge i listed.size with h' | h'
        · simp [h'] at h0 h1; rw [h0] at h1; cases h1
        · simp [Array.getElem?_eq_none h'] at h1
      have hnot : ∀ e ∈ oj.after, Region.binds md e = true → e.on ≠ i := fun e he hb heq => by
        have h1 := hall e he hb
        rw [heq] at h1
        exact hun h1
      have hjL : j ≠ L := by
        rintro rfl
        exact hun (needs3_spec hcl hL hoj hall)
      have h2 := wpOp_putIf hoj (hfree j oj hoj hji hjun hnot) (fun cs b => hsel i oi cs b hi) (fun cs b => hsel j oj cs b hoj) hQ hy h1
      have hfree' : ∀ k ok, ops[k]? = some ok → k ≠ i → (listed.setIfInBounds j true).getD k true = false →
          (∀ e ∈ ok.after, Region.binds md e = true → e.on ≠ i) → oi.apart ops ok = true := fun k ok hk hki hun hno => by
        refine hfree k ok hk hki ?_ hno
        by_cases hjk : j = k
        · subst hjk; exact hjun
        · rw [getD_set_ne true hjk] at hun; exact hun
      refine wpOp_mono (fun a' w' h3 => ⟨h3.2.1, ih (listed.setIfInBounds j true) a' w' (closed_set hcl hj) hfree' (ready_mono hr (Ne.symm hji)) h3.1 (h3.2.1 hjL) ?_⟩) h2
      rw [Array.setIfInBounds_comm _ _ hji]
      exact h3.2.2
theorem take3 {i : Nat} {oi : Oper} {v : Value} {fuel : Nat} {listed : Array Bool} {a : Act} {w : World} (hi : ops[i]? = some oi)
    (hs : Region.noSelect ops = true) (hf : Region.free md ops listed i = true) (hr : (Region.ready md ops listed).contains i = true) (hw : needs3 md ops L i = true) (hc : closedB md ops listed = true)
    (hQ : ∀ c a w, Q (.panic c) (a.put oi.dst v) w → Q (.panic c) a w) (hy : YieldsIf P ops S oi v a) (hS : S w)
    (h : wpAnyE P md ops Q S L fuel (listed.setIfInBounds i true) (a.put oi.dst v) w) : wpAnyE P md ops Q S L (fuel + 1) listed a w :=
  wpAnyE_first3 hi (Region.noSelect_spec hs) hQ hw fuel listed a w (closedB_spec hc) (Region.free_spec hi hf) (by simpa using hr) hy hS h
end
end Go.Proofs.Ytiaggddpoddbcaa.Last
