/- The order of entries: by ticks, of one tick by keys; over texts and over numbers. -/
import Derived.Test.YtiaggddpoddbcaaHeap2
import Derived.OwnWalk
import Derived.Sort.Walk0
namespace Go.Proofs.Ytiaggddpoddbcaa.Before
open Go.RowKit
open Go.Proofs.Ytiaggddpoddbcaa.HeapMath
set_option linter.unusedVariables false
set_option linter.unusedSimpArgs false
abbrev Bs := List UInt8
def mk (l : Bs) : ByteArray := ⟨l.toArray⟩
theorem mk_list (l : Bs) : (mk l).toList = l := by rw [ByteArray.toList_eq]; rfl
/-- what a key asks of its order -/
structure Keys {κ : Type} (lt : κ → κ → Prop) : Prop where
  irr : ∀ a, ¬ lt a a
  trans : ∀ a b c, lt a b → lt b c → lt a c
  tot : ∀ a b, a ≠ b → lt a b ∨ lt b a
def entLt {κ : Type} (lt : κ → κ → Prop) (a b : κ × Int) : Prop := if a.2 = b.2 then lt a.1 b.1 else a.2 < b.2
instance {κ : Type} (lt : κ → κ → Prop) [DecidableRel lt] : DecidableRel (entLt lt) := fun a b => by unfold entLt; exact inferInstance
theorem ent_keys {κ : Type} {lt : κ → κ → Prop} (h : Keys lt) : Keys (entLt lt) := by
  refine ⟨fun a => ?_, fun a b c => ?_, fun a b hne => ?_⟩
  · unfold entLt; rw [if_pos rfl]; exact h.irr _
  · unfold entLt
    intro h1 h2
    by_cases q1 : a.2 = b.2
    · rw [if_pos q1] at h1
      by_cases q2 : b.2 = c.2
      · rw [if_pos q2] at h2; rw [if_pos (q1.trans q2)]; exact h.trans _ _ _ h1 h2
      · rw [if_neg q2] at h2; rw [if_neg (by omega)]; omega
    · rw [if_neg q1] at h1
      by_cases q2 : b.2 = c.2
      · rw [if_neg (by omega)]; omega
      · rw [if_neg q2] at h2; rw [if_neg (by omega)]; omega
  · unfold entLt
    by_cases q : a.2 = b.2
    · rw [if_pos q, if_pos q.symm]
      exact h.tot _ _ (fun e => hne (Prod.ext e q))
    · rw [if_neg q, if_neg (Ne.symm q)]
      omega
theorem ent_sto {κ : Type} {lt : κ → κ → Prop} (h : Keys lt) : STO (entLt lt) := STO.of_tot (ent_keys h).irr (ent_keys h).trans (ent_keys h).tot
theorem keysI : Keys (fun a b : Int => a < b) := ⟨fun a => Int.lt_irrefl a, fun a b c => Int.lt_trans, fun a b h => by omega⟩
theorem keysS : Keys (fun a b : Bs => a < b) := ⟨fun a => List.lt_irrefl a, fun a b c => List.lt_trans, fun a b h => by
  rcases Decidable.em (a < b) with q | q
  · exact .inl q
  · rcases Decidable.em (b < a) with r | r
    · exact .inr r
    · exact absurd (List.le_antisymm r q) h⟩
abbrev ltS : Bs × Int → Bs × Int → Prop := entLt (fun a b : Bs => a < b)
abbrev ltI : Int × Int → Int × Int → Prop := entLt (fun a b : Int => a < b)
def eS (e : Bs × Int) : Value := .agg #[.string (mk e.1), .int .i64 e.2]
def eI (e : Int × Int) : Value := .agg #[.int .i64 e.1, .int .i64 e.2]
set_option maxHeartbeats 1000000 in
set_option maxRecDepth 100000 in
theorem beforeS (a b : Bs × Int) (w : World) : Calls Try.prog 80 #[eS a, eS b] w fun e w' => e = .returned (.bool (decide (ltS a b))) ∧ Below w.heap.size w w' := by
  obtain ⟨k, s⟩ := a
  obtain ⟨l, t⟩ := b
  unfold eS ltS entLt
  dsimp only
  by_cases h : s = t
  · subst h
    have e1 : (s == s) = true := by simp
    have e2 : Op.bytesLess (mk k).toList (mk l).toList = decide (k < l) := by rw [mk_list, mk_list]; exact bytesLess_eq _ _
    go_enter Try.func80, Try.ntmps80
    go_wp2_with fail
    go_ret
    refine ⟨?_, ((Below.refl _ w).alloc (Nat.le_refl _) _).alloc (by simp) _⟩
    rfl
  · have e1 : (s == t) = false := by rw [beq_eq_false_iff_ne]; exact h
    go_enter Try.func80, Try.ntmps80
    go_wp2_with fail
    go_ret
    refine ⟨?_, ((Below.refl _ w).alloc (Nat.le_refl _) _).alloc (by simp) _⟩
    rfl
set_option maxHeartbeats 1000000 in
set_option maxRecDepth 100000 in
theorem beforeI (a b : Int × Int) (w : World) : Calls Try.prog 75 #[eI a, eI b] w fun e w' => e = .returned (.bool (decide (ltI a b))) ∧ Below w.heap.size w w' := by
  obtain ⟨k, s⟩ := a
  obtain ⟨l, t⟩ := b
  unfold eI ltI entLt
  dsimp only
  by_cases h : s = t
  · subst h
    have e1 : (s == s) = true := by simp
    go_enter Try.func75, Try.ntmps75
    go_wp2_with fail
    go_ret
    refine ⟨?_, ((Below.refl _ w).alloc (Nat.le_refl _) _).alloc (by simp) _⟩
    rfl
  · have e1 : (s == t) = false := by rw [beq_eq_false_iff_ne]; exact h
    go_enter Try.func75, Try.ntmps75
    go_wp2_with fail
    go_ret
    refine ⟨?_, ((Below.refl _ w).alloc (Nat.le_refl _) _).alloc (by simp) _⟩
    rfl
end Go.Proofs.Ytiaggddpoddbcaa.Before
