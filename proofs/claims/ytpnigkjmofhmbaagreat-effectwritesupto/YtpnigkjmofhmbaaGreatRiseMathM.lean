/- The entries of a heap in their order, by the places at which the next one may stand; no program is met here. container/heap's up and down over what the program moves by them: given what Less and Swap do. container/heap's Push, Fix, Remove and Pop: the mathematics, and what a thing's own Len, Push and Pop do. -/
import Derived.Test.YtpnigkjmofhmbaaGreatSpaceMathM
import Derived.Test.YtpnigkjmofhmbaaGreatProg
import Derived.WalkKit
import Derived.Below
import Derived.Deep.LoopGhost
section
namespace Go.Proofs.YtpnigkjmofhmbaaGreat.HeapMath
set_option linter.unusedVariables false
set_option linter.unusedSimpArgs false
section
variable {α : Type} [Inhabited α] {lt : α → α → Prop}
/-- the places that came, and those that may come next -/
structure Near (n : Nat) (done near : List Nat) : Prop where
  lt : ∀ p ∈ done ++ near, p < n
  nodup : (done ++ near).Nodup
  up : ∀ p ∈ done ++ near, 0 < p → par p ∈ done
  down : ∀ p ∈ done, ∀ c, c < n → 0 < c → par c = p → c ∈ done ++ near
  root : 0 < n → 0 ∈ done ++ near
theorem Near.start (n : Nat) : Near n [] (if 0 < n then [0] else []) := by
  by_cases h : 0 < n
  · rw [if_pos h]
    exact ⟨fun p hp => (by simp at hp; omega), by simp, fun p hp h0 => (by simp at hp; omega), fun p hp => (by cases hp), fun _ => (by simp)⟩
  · rw [if_neg h]
    exact ⟨fun p hp => (by simp at hp), by simp, fun p hp => (by simp at hp), fun p hp => (by cases hp), fun q => absurd q h⟩
theorem Near.reach (o : STO lt) {l : List α} {n : Nat} {done near : List Nat} (h : Near n done near) (hh : Hp lt l n) : ∀ p, p < n → p ∉ done → ∃ q ∈ near, ¬ lt (pl l p) (pl l q) := by
  intro p
  induction p using Nat.strongRecOn with
  | ind p ih =>
    intro hp hd
    by_cases hn : p ∈ near
    · exact ⟨p, hn, o.irr _⟩
    · have h0 : 0 < p := by
        rcases Nat.eq_zero_or_pos p with q | q
        · subst q
          rcases List.mem_append.1 (h.root hp) with r | r
          · exact absurd r hd
          · exact absurd r hn
        · exact q
      have hpd : par p ∉ done := fun r => by
        rcases List.mem_append.1 (h.down _ r p hp h0 rfl) with s | s
        · exact hd s
        · exact hn s
      obtain ⟨q, hq, hle⟩ := ih (par p) (par_lt h0) (by have := par_lt h0; omega) hpd
      exact ⟨q, hq, o.le_trans hle (hh p h0 hp)⟩
/-- what hangs on m -/
def kids (n m : Nat) : List Nat := (if 2 * m + 1 < n then [2 * m + 1] else []) ++ (if 2 * m + 2 < n then [2 * m + 2] else [])
theorem kids_mem {n m c : Nat} : c ∈ kids n m ↔ c < n ∧ 0 < c ∧ par c = m := by
  unfold kids
  constructor
  · intro h
    rcases List.mem_append.1 h with h | h
    · split at h
      · simp at h; subst h; exact ⟨by assumption, by omega, by unfold par; omega⟩
      · cases h
    · split at h
      · simp at h; subst h; exact ⟨by assumption, by omega, by unfold par; omega⟩
      · cases h
  · rintro ⟨h1, h2, h3⟩
    rcases (par_eq h2).1 h3 with rfl | rfl
    · exact List.mem_append_left _ (by rw [if_pos h1]; simp)
    · exact List.mem_append_right _ (by rw [if_pos h1]; simp)
theorem kids_nodup (n m : Nat) : (kids n m).Nodup := by
  unfold kids
  split <;> split <;> simp
theorem Near.step {n m : Nat} {done near near' : List Nat} (h : Near n done near) (hm : m ∈ near) (hp : near'.Perm (near.erase m ++ kids n m)) : Near n (done ++ [m]) near' := by
  have hnd := List.nodup_append.1 h.nodup
  have hmd : m ∉ done := fun q => hnd.2.2 m q m hm rfl
  have hmn := h.lt m (List.mem_append_right _ hm)
  have mem : ∀ p, p ∈ near' ↔ (p ∈ near ∧ p ≠ m) ∨ p ∈ kids n m := fun p => by
    rw [hp.mem_iff, List.mem_append, hnd.2.1.mem_erase_iff]
    constructor
    · rintro (⟨a, b⟩ | c)
      · exact .inl ⟨b, a⟩
      · exact .inr c
    · rintro (⟨a, b⟩ | c)
      · exact .inl ⟨b, a⟩
      · exact .inr c
  have kid_new : ∀ c ∈ kids n m, c ∉ done ∧ c ∉ near := fun c hc => by
    obtain ⟨c1, c2, c3⟩ := kids_mem.1 hc
    have this : c ∈ done ++ near → False := fun r => hmd (by have := h.up c r c2; rwa [c3] at this)
    exact ⟨fun r => this (List.mem_append_left _ r), fun r => this (List.mem_append_right _ r)⟩
  refine ⟨fun p hpm => ?_, ?_, fun p hpm h0 => ?_, fun p hpd c hc c0 hcp => ?_, fun h0 => ?_⟩
  · rcases List.mem_append.1 hpm with q | q
    · rcases List.mem_append.1 q with r | r
      · exact h.lt p (List.mem_append_left _ r)
      · simp at r; subst r; exact hmn
    · rcases (mem p).1 q with ⟨r, _⟩ | r
      · exact h.lt p (List.mem_append_right _ r)
      · exact (kids_mem.1 r).1
  · rw [List.nodup_append]
    refine ⟨?_, ?_, ?_⟩
    · rw [List.nodup_append]
      exact ⟨hnd.1, by simp, fun a ha b hb => by simp at hb; subst hb; rintro rfl; exact hmd ha⟩
    · rw [hp.nodup_iff, List.nodup_append]
      exact ⟨hnd.2.1.erase m, kids_nodup n m, fun a ha b hb => by rintro rfl; exact (kid_new a hb).2 (List.mem_of_mem_erase ha)⟩
    · intro a ha b hb
      rintro rfl
      rcases List.mem_append.1 ha with q | q
      · rcases (mem a).1 hb with ⟨r, _⟩ | r
        · exact hnd.2.2 a q a r rfl
        · exact (kid_new a r).1 q
      · simp at q; subst q
        rcases (mem a).1 hb with ⟨_, r⟩ | r
        · exact r rfl
        · have := kids_mem.1 r
          have := par_lt this.2.1
          omega
  · rcases List.mem_append.1 hpm with q | q
    · rcases List.mem_append.1 q with r | r
      · exact List.mem_append_left _ (h.up p (List.mem_append_left _ r) h0)
      · simp at r; subst r; exact List.mem_append_left _ (h.up p (List.mem_append_right _ hm) h0)
    · rcases (mem p).1 q with ⟨r, _⟩ | r
      · exact List.mem_append_left _ (h.up p (List.mem_append_right _ r) h0)
      · rw [(kids_mem.1 r).2.2]; simp
  · rcases List.mem_append.1 hpd with q | q
    · rcases List.mem_append.1 (h.down p q c hc c0 hcp) with r | r
      · exact List.mem_append_left _ (List.mem_append_left _ r)
      · by_cases s : c = m
        · subst s; exact List.mem_append_left _ (by simp)
        · exact List.mem_append_right _ ((mem c).2 (.inl ⟨r, s⟩))
    · simp at q; subst q
      exact List.mem_append_right _ ((mem c).2 (.inr (kids_mem.2 ⟨hc, c0, hcp⟩)))
  · rcases List.mem_append.1 (h.root h0) with r | r
    · exact List.mem_append_left _ (List.mem_append_left _ r)
    · by_cases s : 0 = m
      · rw [← s]; exact List.mem_append_left _ (by simp)
      · exact List.mem_append_right _ ((mem 0).2 (.inl ⟨r, s⟩))
/-- S is l in its order -/
structure Sorted (lt : α → α → Prop) (l S : List α) : Prop where
  perm : S.Perm l
  inc : S.Pairwise lt
theorem nodup_inj {β : Type} {l : List β} (h : l.Nodup) {i j : Nat} (hi : i < l.length) (hj : j < l.length) (e : l[i] = l[j]) : i = j := by
  have hp := List.pairwise_iff_getElem.1 h
  rcases Nat.lt_trichotomy i j with q | q | q
  · exact absurd e (hp i j hi hj q)
  · exact q
  · exact absurd e.symm (hp j i hj hi q)
theorem pl_inj {l : List α} (h : l.Nodup) {i j : Nat} (hi : i < l.length) (hj : j < l.length) (e : pl l i = pl l j) : i = j := by
  rw [pl_in hi, pl_in hj] at e
  exact nodup_inj h hi hj e
theorem mem_pl {l : List α} {a : α} (h : a ∈ l) : ∃ p, p < l.length ∧ pl l p = a := by
  obtain ⟨p, hp, e⟩ := List.getElem_of_mem h
  exact ⟨p, hp, by rw [pl_in hp, e]⟩
/-- the least of those that may come next is the next one -/
theorem next_is (o : STO lt) (tot : ∀ a b, a ≠ b → lt a b ∨ lt b a) {l S : List α} (hl : l.Nodup) (hS : Sorted lt l S) (hh : Hp lt l l.length) {done near : List Nat} (h : Near l.length done near) (hd : done.map (pl l) = S.take done.length) {m : Nat} (hm : m ∈ near) (hmin : ∀ q ∈ near, ¬ lt (pl l q) (pl l m)) :
    ∃ hk : done.length < S.length, S[done.length] = pl l m := by
  have hnd := List.nodup_append.1 h.nodup
  have hmd : m ∉ done := fun q => hnd.2.2 m q m hm rfl
  have hmn := h.lt m (List.mem_append_right _ hm)
  have hSn : S.Nodup := hS.perm.nodup_iff.2 hl
  have e1 : pl l m ∈ S := hS.perm.mem_iff.2 (by rw [pl_in hmn]; exact List.getElem_mem hmn)
  obtain ⟨j, hj, ej⟩ := List.getElem_of_mem e1
  have hjk : done.length ≤ j := by
    rcases Nat.lt_or_ge j done.length with q | q
    · exfalso
      have : S[j] ∈ done.map (pl l) := by
        rw [hd]
        exact List.mem_take_iff_getElem.2 ⟨j, by omega, rfl⟩
      obtain ⟨d, hd1, hd2⟩ := List.mem_map.1 this
      have := pl_inj hl (h.lt d (List.mem_append_left _ hd1)) hmn (by rw [hd2, ej])
      subst this
      exact hmd hd1
    · exact q
  refine ⟨by omega, ?_⟩
  obtain ⟨p, hp, ep⟩ := mem_pl (hS.perm.mem_iff.1 (List.getElem_mem (show done.length < S.length by omega)))
  have hpd : p ∉ done := fun q => by
    have : pl l p ∈ done.map (pl l) := List.mem_map_of_mem q
    rw [hd, ep] at this
    obtain ⟨i, hi, ei⟩ := List.mem_take_iff_getElem.1 this
    have := nodup_inj hSn (by omega) (by omega) ei
    omega
  obtain ⟨q, hq, hle⟩ := h.reach o hh p hp hpd
  have h1 : ¬ lt (S[done.length]) (pl l m) := by rw [← ep]; exact o.le_trans (hmin q hq) hle
  by_cases e : S[done.length] = pl l m
  · exact e
  · rcases tot _ _ e with r | r
    · exact absurd r h1
    · exfalso
      rw [← ej] at r
      rcases Nat.lt_or_ge done.length j with s | s
      · have := List.pairwise_iff_getElem.1 hS.inc done.length j (by omega) hj s
        exact o.asymm this r
      · have : j = done.length := by omega
        subst this
        exact o.irr _ r
end
end Go.Proofs.YtpnigkjmofhmbaaGreat.HeapMath
end
section
namespace Go.Proofs.YtpnigkjmofhmbaaGreat.Heap
open Go.RowKit
open Go.Proofs.YtpnigkjmofhmbaaGreat.HeapMath
set_option linter.unusedVariables false
set_option linter.unusedSimpArgs false
theorem hid_of {p : Prop} (h : p) : Hid p := h
/-- what Less and Swap of a thing do: R tells the row that a world holds, F what stays -/
structure Moves {α : Type} [Inhabited α] (less swap : Nat) (lt : α → α → Prop) [DecidableRel lt] (pv : Value) (R : World → List α → Prop) (F : World → World → Prop) : Prop where
  refl : ∀ w, F w w
  trans : ∀ a b c, F a b → F b c → F a c
  less : ∀ w l (i j : Nat), R w l → i < l.length → j < l.length → Calls Tryz.prog less #[pv, .int .i64 (i : Int), .int .i64 (j : Int)] w fun e w' => e = .returned (.bool (decide (lt (pl l i) (pl l j)))) ∧ R w' l ∧ F w w'
  swap : ∀ w l (i j : Nat), R w l → i < l.length → j < l.length → Calls Tryz.prog swap #[pv, .int .i64 (i : Int), .int .i64 (j : Int)] w fun e w' => e = .returned (.tuple #[]) ∧ R w' (swp l i j) ∧ F w w'
/-- the same entries, in the order of a heap as far as n -/
def Was {α : Type} [Inhabited α] (lt : α → α → Prop) (n : Nat) (l l' : List α) : Prop := Hp lt l' n ∧ l'.Perm l ∧ ∀ k, n ≤ k → pl l' k = pl l k
/-- what down leaves: b tells whether anything was moved -/
def Down {α : Type} [Inhabited α] (lt : α → α → Prop) (n i0 : Nat) (l l' : List α) (b : Bool) : Prop := l'.Perm l ∧ (∀ k, n ≤ k → pl l' k = pl l k) ∧ (b = true → Hp lt l' n) ∧ (b = false → l' = l ∧ Up lt l n i0)
def DownE {α : Type} [Inhabited α] (lt : α → α → Prop) (n i0 : Nat) (l : List α) (R : World → List α → Prop) (F : World → World → Prop) (w : World) (e : Ending) (w' : World) : Prop := ∃ (b : Bool) (l' : List α), e = .returned (.bool b) ∧ R w' l' ∧ Down lt n i0 l l' b ∧ F w w'
/-- down, on its way -/
structure Mid {α : Type} [Inhabited α] (lt : α → α → Prop) (n i0 i : Nat) (l m : List α) : Prop where
  perm : m.Perm l
  behind : ∀ k, n ≤ k → pl m k = pl l k
  way : (i = i0 ∧ m = l ∧ D0 lt l n i0) ∨ (i0 < i ∧ Dn lt m n i)
theorem Mid.start {α : Type} [Inhabited α] {lt : α → α → Prop} {n i0 : Nat} {l : List α} (h : D0 lt l n i0) : Mid lt n i0 i0 l l := ⟨List.Perm.refl _, fun _ _ => rfl, .inl ⟨rfl, rfl, h⟩⟩
theorem Mid.step {α : Type} [Inhabited α] [DecidableEq α] {lt : α → α → Prop} {n i0 i j : Nat} {l m : List α} (h : Mid lt n i0 i l m) (o : STO lt) (hn : n ≤ m.length) (hin : i < n) (hi0 : i0 ≤ i) (hj : Least lt m n i j) (hl : lt (pl m j) (pl m i)) : Mid lt n i0 j l (swp m i j) := by
  have hij : i < j := by have := par_lt hj.1; have := hj.2.2.1; omega
  have hjn := hj.2.1
  refine ⟨(swp_perm (by omega) (by omega)).trans h.perm, fun k hk => ?_, .inr ⟨by omega, ?_⟩⟩
  · rw [swp_at (by omega) (by omega), if_neg (by omega), if_neg (by omega)]; exact h.behind k hk
  · rcases h.way with ⟨e1, e2, hd⟩ | ⟨_, hd⟩
    · rw [e2] at hj hl hn ⊢
      rw [e1] at hj hl ⊢
      exact hd.first o hn hj hl
    · exact hd.step o hn hj hl
theorem Mid.fin {α : Type} [Inhabited α] {lt : α → α → Prop} {n i0 i : Nat} {l m : List α} (h : Mid lt n i0 i l m) (o : STO lt) (hc : ∀ k, 0 < k → k < n → par k = i → ¬ lt (pl m k) (pl m i)) : Down lt n i0 l m (decide (i0 < i)) := by
  refine ⟨h.perm, h.behind, fun hb => ?_, fun hb => ?_⟩
  · rcases h.way with ⟨e1, _, _⟩ | ⟨_, hd⟩
    · have := of_decide_eq_true hb; omega
    · exact hd.fin hc
  · rcases h.way with ⟨e1, e2, hd⟩ | ⟨q, _⟩
    · rw [e2, e1] at hc
      exact ⟨e2, hd.fin hc⟩
    · have := of_decide_eq_false hb; omega
end Go.Proofs.YtpnigkjmofhmbaaGreat.Heap
end
section
namespace Go.Proofs.YtpnigkjmofhmbaaGreat.Heap
open Go.RowKit
open Go.Proofs.YtpnigkjmofhmbaaGreat.HeapMath
set_option linter.unusedVariables false
set_option linter.unusedSimpArgs false
structure Thing {α : Type} [Inhabited α] (len less pop push swap : Nat) (lt : α → α → Prop) [DecidableRel lt] (pv : Value) (xv : α → Value) (ok : α → List α → Prop) (R : World → List α → Prop) (F : World → World → Prop) : Prop where
  moves : Moves less swap lt pv R F
  len : ∀ w l, R w l → Calls Tryz.prog len #[pv] w fun e w' => e = .returned (.int .i64 (l.length : Int)) ∧ R w' l ∧ F w w'
  push : ∀ w l a, R w l → ok a l → Calls Tryz.prog push #[pv, xv a] w fun e w' => e = .returned (.tuple #[]) ∧ R w' (l ++ [a]) ∧ F w w'
  pop : ∀ w l, R w l → 0 < l.length → Calls Tryz.prog pop #[pv] w fun e w' => e = .returned (xv (pl l (l.length - 1))) ∧ R w' (l.take (l.length - 1)) ∧ F w w'
section
variable {α : Type} [Inhabited α] {lt : α → α → Prop}
theorem pl_app (l : List α) (a : α) (k : Nat) : pl (l ++ [a]) k = if k = l.length then a else pl l k := by
  unfold pl
  by_cases h : k < l.length
  · rw [if_neg (by omega)]; simp only [List.getD]; rw [List.getElem?_append_left h]
  · by_cases q : k = l.length
    · subst q; simp [List.getD]
    · rw [if_neg q]
      simp only [List.getD]
      rw [List.getElem?_eq_none (by simp; omega), List.getElem?_eq_none (by omega)]
theorem up_new {l : List α} {a : α} (h : Hp lt l l.length) : Up lt (l ++ [a]) (l.length + 1) l.length := by
  refine ⟨fun k hk hkn hne => ?_, fun k hk hkn hkp _ => ?_⟩
  · have hp := par_lt hk
    rw [pl_app, pl_app, if_neg hne, if_neg (by omega)]
    exact h k hk (by omega)
  · have := par_lt hk; omega
theorem pl_take {l : List α} {n k : Nat} (h : k < n) : pl (l.take n) k = pl l k := by
  unfold pl; simp only [List.getD]; rw [List.getElem?_take_of_lt h]
theorem hp_take {l : List α} {n : Nat} (h : Hp lt l n) : Hp lt (l.take n) n := fun k hk hkn => by
  have := par_lt hk
  rw [pl_take hkn, pl_take (by omega)]
  exact h k hk hkn
theorem take_last {l : List α} (h : 0 < l.length) : l.take (l.length - 1) ++ [pl l (l.length - 1)] = l := by
  rw [pl_in (by omega)]
  have := List.take_append_getElem (l := l) (i := l.length - 1) (by omega)
  rw [this, show l.length - 1 + 1 = l.length by omega, List.take_length]
/-- what is left when the last is taken away -/
theorem left_perm {l l' : List α} {a : α} (h0 : 0 < l.length) (hp : l'.Perm l) (ha : pl l' (l.length - 1) = a) : (l'.take (l'.length - 1) ++ [a]).Perm l := by
  have e : l'.length = l.length := hp.length_eq
  have := take_last (l := l') (by omega)
  rw [e] at this ⊢
  rw [ha] at this
  rw [this]
  exact hp
/-- the last is brought to i -/
theorem brought (o : STO lt) {l : List α} {i : Nat} (h : Hp lt l l.length) (hi : i < l.length - 1) : D0 lt (swp l i (l.length - 1)) (l.length - 1) i := by
  refine ⟨fun k hk hkn h1 h2 => ?_, fun k hk hkn h1 h2 => ?_⟩
  · have := par_lt hk
    rw [swp_at (by omega) (by omega), swp_at (by omega) (by omega), if_neg (by omega), if_neg h1, if_neg (by omega), if_neg h2]
    exact h k hk (by omega)
  · have h3 := par_lt hk
    have h4 := par_lt h2
    rw [swp_at (by omega) (by omega), swp_at (by omega) (by omega), if_neg (by omega), if_neg (by omega), if_neg (by omega), if_neg (by omega)]
    have a := h k hk (by omega)
    rw [h1] at a
    exact o.le_trans (h i h2 (by omega)) a
end
end Go.Proofs.YtpnigkjmofhmbaaGreat.Heap
end
