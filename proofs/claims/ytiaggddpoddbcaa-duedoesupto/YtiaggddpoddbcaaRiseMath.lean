/- The entries of a heap in their order, by the places at which the next one may stand; no program is met here. -/
import Derived.Test.YtiaggddpoddbcaaHeapMath
namespace Go.Proofs.Ytiaggddpoddbcaa.HeapMath
set_option linter.unusedVariables false
set_option linter.unusedSimpArgs false
section
variable {α : Type} [Inhabited α] {lt : α → α → Prop}
/-- the places that came, and those that may come next -/
structure Near (n : Nat) (done near : List Nat) : Prop where
  lt : ∀ p ∈ done ++ near, p < n
  nodup : (done ++ near).Nodup
  up : ∀ p ∈ done ++ near, 0 < p → par p ∈ done
  down : ∀ p ∈ done, ∀ c, c < n → 0 < c → par c = p → c ∈ done ++ near
  root : 0 < n → 0 ∈ done ++ near
theorem Near.start (n : Nat) : Near n [] (if 0 < n then [0] else []) := by
  by_cases h : 0 < n
  · rw [if_pos h]
    exact ⟨fun p hp => (by simp at hp; omega), by simp, fun p hp h0 => (by simp at hp; omega), fun p hp => (by cases hp), fun _ => (by simp)⟩
  · rw [if_neg h]
    exact ⟨fun p hp => (by simp at hp), by simp, fun p hp => (by simp at hp), fun p hp => (by cases hp), fun q => absurd q h⟩
theorem Near.reach (o : STO lt) {l : List α} {n : Nat} {done near : List Nat} (h : Near n done near) (hh : Hp lt l n) : ∀ p, p < n → p ∉ done → ∃ q ∈ near, ¬ lt (pl l p) (pl l q) := by
  intro p
  induction p using Nat.strongRecOn with
  | ind p ih =>
    intro hp hd
    by_cases hn : p ∈ near
    · exact ⟨p, hn, o.irr _⟩
    · have h0 : 0 < p := by
        rcases Nat.eq_zero_or_pos p with q | q
        · subst q
          rcases List.mem_append.1 (h.root hp) with r | r
          · exact absurd r hd
          · exact absurd r hn
        · exact q
      have hpd : par p ∉ done := fun r => by
        rcases List.mem_append.1 (h.down _ r p hp h0 rfl) with s | s
        · exact hd s
        · exact hn s
      obtain ⟨q, hq, hle⟩ := ih (par p) (par_lt h0) (by have := par_lt h0; omega) hpd
      exact ⟨q, hq, o.le_trans hle (hh p h0 hp)⟩
/-- what hangs on m -/
def kids (n m : Nat) : List Nat := (if 2 * m + 1 < n then [2 * m + 1] else []) ++ (if 2 * m + 2 < n then [2 * m + 2] else [])
theorem kids_mem {n m c : Nat} : c ∈ kids n m ↔ c < n ∧ 0 < c ∧ par c = m := by
  unfold kids
  constructor
  · intro h
    rcases List.mem_append.1 h with h | h
    · split at h
      · simp at h; subst h; exact ⟨by assumption, by omega, by unfold par; omega⟩
      · cases h
    · split at h
      · simp at h; subst h; exact ⟨by assumption, by omega, by unfold par; omega⟩
      · cases h
  · rintro ⟨h1, h2, h3⟩
    rcases (par_eq h2).1 h3 with rfl | rfl
    · exact List.mem_append_left _ (by rw [if_pos h1]; simp)
    · exact List.mem_append_right _ (by rw [if_pos h1]; simp)
theorem kids_nodup (n m : Nat) : (kids n m).Nodup := by
  unfold kids
  split <;> split <;> simp
theorem Near.step {n m : Nat} {done near near' : List Nat} (h : Near n done near) (hm : m ∈ near) (hp : near'.Perm (near.erase m ++ kids n m)) : Near n (done ++ [m]) near' := by
  have hnd := List.nodup_append.1 h.nodup
  have hmd : m ∉ done := fun q => hnd.2.2 m q m hm rfl
  have hmn := h.lt m (List.mem_append_right _ hm)
  have mem : ∀ p, p ∈ near' ↔ (p ∈ near ∧ p ≠ m) ∨ p ∈ kids n m := fun p => by
    rw [hp.mem_iff, List.mem_append, hnd.2.1.mem_erase_iff]
    constructor
    · rintro (⟨a, b⟩ | c)
      · exact .inl ⟨b, a⟩
      · exact .inr c
    · rintro (⟨a, b⟩ | c)
      · exact .inl ⟨b, a⟩
      · exact .inr c
  have kid_new : ∀ c ∈ kids n m, c ∉ done ∧ c ∉ near := fun c hc => by
    obtain ⟨c1, c2, c3⟩ := kids_mem.1 hc
    have this : c ∈ done ++ near → False := fun r => hmd (by have := h.up c r c2; rwa [c3] at this)
    exact ⟨fun r => this (List.mem_append_left _ r), fun r => this (List.mem_append_right _ r)⟩
  refine ⟨fun p hpm => ?_, ?_, fun p hpm h0 => ?_, fun p hpd c hc c0 hcp => ?_, fun h0 => ?_⟩
  · rcases List.mem_append.1 hpm with q | q
    · rcases List.mem_append.1 q with r | r
      · exact h.lt p (List.mem_append_left _ r)
      · simp at r; subst r; exact hmn
    · rcases (mem p).1 q with ⟨r, _⟩ | r
      · exact h.lt p (List.mem_append_right _ r)
      · exact (kids_mem.1 r).1
  · rw [List.nodup_append]
    refine ⟨?_, ?_, ?_⟩
    · rw [List.nodup_append]
      exact ⟨hnd.1, by simp, fun a ha b hb => by simp at hb; subst hb; rintro rfl; exact hmd ha⟩
    · rw [hp.nodup_iff, List.nodup_append]
      exact ⟨hnd.2.1.erase m, kids_nodup n m, fun a ha b hb => by rintro rfl; exact (kid_new a hb).2 (List.mem_of_mem_erase ha)⟩
    · intro a ha b hb
      rintro rfl
      rcases List.mem_append.1 ha with q | q
      · rcases (mem a).1 hb with ⟨r, _⟩ | r
        · exact hnd.2.2 a q a r rfl
        · exact (kid_new a r).1 q
      · simp at q; subst q
        rcases (mem a).1 hb with ⟨_, r⟩ | r
        · exact r rfl
        · have := kids_mem.1 r
          have := par_lt this.2.1
          omega
  · rcases List.mem_append.1 hpm with q | q
    · rcases List.mem_append.1 q with r | r
      · exact List.mem_append_left _ (h.up p (List.mem_append_left _ r) h0)
      · simp at r; subst r; exact List.mem_append_left _ (h.up p (List.mem_append_right _ hm) h0)
    · rcases (mem p).1 q with ⟨r, _⟩ | r
      · exact List.mem_append_left _ (h.up p (List.mem_append_right _ r) h0)
      · rw [(kids_mem.1 r).2.2]; simp
  · rcases List.mem_append.1 hpd with q | q
    · rcases List.mem_append.1 (h.down p q c hc c0 hcp) with r | r
      · exact List.mem_append_left _ (List.mem_append_left _ r)
      · by_cases s : c = m
        · subst s; exact List.mem_append_left _ (by simp)
        · exact List.mem_append_right _ ((mem c).2 (.inl ⟨r, s⟩))
    · simp at q; subst q
      exact List.mem_append_right _ ((mem c).2 (.inr (kids_mem.2 ⟨hc, c0, hcp⟩)))
  · rcases List.mem_append.1 (h.root h0) with r | r
    · exact List.mem_append_left _ (List.mem_append_left _ r)
    · by_cases s : 0 = m
      · rw [← s]; exact List.mem_append_left _ (by simp)
      · exact List.mem_append_right _ ((mem 0).2 (.inl ⟨r, s⟩))
/-- S is l in its order -/
structure Sorted (lt : α → α → Prop) (l S : List α) : Prop where
  perm : S.Perm l
  inc : S.Pairwise lt
theorem nodup_inj {β : Type} {l : List β} (h : l.Nodup) {i j : Nat} (hi : i < l.length) (hj : j < l.length) (e : l[i] = l[j]) : i = j := by
  have hp := List.pairwise_iff_getElem.1 h
  rcases Nat.lt_trichotomy i j with q | q | q
  · exact absurd e (hp i j hi hj q)
  · exact q
  · exact absurd e.symm (hp j i hj hi q)
theorem pl_inj {l : List α} (h : l.Nodup) {i j : Nat} (hi : i < l.length) (hj : j < l.length) (e : pl l i = pl l j) : i = j := by
  rw [pl_in hi, pl_in hj] at e
  exact nodup_inj h hi hj e
theorem mem_pl {l : List α} {a : α} (h : a ∈ l) : ∃ p, p < l.length ∧ pl l p = a := by
  obtain ⟨p, hp, e⟩ := List.getElem_of_mem h
  exact ⟨p, hp, by rw [pl_in hp, e]⟩
/-- the least of those that may come next is the next one -/
theorem next_is (o : STO lt) (tot : ∀ a b, a ≠ b → lt a b ∨ lt b a) {l S : List α} (hl : l.Nodup) (hS : Sorted lt l S) (hh : Hp lt l l.length) {done near : List Nat} (h : Near l.length done near) (hd : done.map (pl l) = S.take done.length) {m : Nat} (hm : m ∈ near) (hmin : ∀ q ∈ near, ¬ lt (pl l q) (pl l m)) :
    ∃ hk : done.length < S.length, S[done.length] = pl l m := by
  have hnd := List.nodup_append.1 h.nodup
  have hmd : m ∉ done := fun q => hnd.2.2 m q m hm rfl
  have hmn := h.lt m (List.mem_append_right _ hm)
  have hSn : S.Nodup := hS.perm.nodup_iff.2 hl
  have e1 : pl l m ∈ S := hS.perm.mem_iff.2 (by rw [pl_in hmn]; exact List.getElem_mem hmn)
  obtain ⟨j, hj, ej⟩ := List.getElem_of_mem e1
  have hjk : done.length ≤ j := by
    rcases Nat.lt_or_ge j done.length with q | q
    · exfalso
      have : S[j] ∈ done.map (pl l) := by
        rw [hd]
        exact List.mem_take_iff_getElem.2 ⟨j, by omega, rfl⟩
      obtain ⟨d, hd1, hd2⟩ := List.mem_map.1 this
      have := pl_inj hl (h.lt d (List.mem_append_left _ hd1)) hmn (by rw [hd2, ej])
      subst this
      exact hmd hd1
    · exact q
  refine ⟨by omega, ?_⟩
  obtain ⟨p, hp, ep⟩ := mem_pl (hS.perm.mem_iff.1 (List.getElem_mem (show done.length < S.length by omega)))
  have hpd : p ∉ done := fun q => by
    have : pl l p ∈ done.map (pl l) := List.mem_map_of_mem q
    rw [hd, ep] at this
    obtain ⟨i, hi, ei⟩ := List.mem_take_iff_getElem.1 this
    have := nodup_inj hSn (by omega) (by omega) ei
    omega
  obtain ⟨q, hq, hle⟩ := h.reach o hh p hp hpd
  have h1 : ¬ lt (S[done.length]) (pl l m) := by rw [← ep]; exact o.le_trans (hmin q hq) hle
  by_cases e : S[done.length] = pl l m
  · exact e
  · rcases tot _ _ e with r | r
    · exact absurd r h1
    · exfalso
      rw [← ej] at r
      rcases Nat.lt_or_ge done.length j with s | s
      · have := List.pairwise_iff_getElem.1 hS.inc done.length j (by omega) hj s
        exact o.asymm this r
      · have : j = done.length := by omega
        subst this
        exact o.irr _ r
end
end Go.Proofs.Ytiaggddpoddbcaa.HeapMath
