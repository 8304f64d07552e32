/- A rank as mathematics, on: intervals, what skip and most leave, what is popped. -/
import Derived.Test.YtighoelipihifabGreatDoorRankMath2
namespace Go.Proofs.YtighoelipihifabGreatDoor.RankMath3
open Go.Proofs.YtighoelipihifabGreatDoor.MapMath
open Go.Proofs.YtighoelipihifabGreatDoor.RankMath
open Go.Proofs.YtighoelipihifabGreatDoor.RankMath2
set_option linter.unusedVariables false

structure Bnd where
  inf : Int
  opn : Bool
  score : Int
  name : Bs
def cmpI (a b : Int) : Int := if a < b then -1 else if b < a then 1 else 0
def cmpB (a b : Bs) : Int := if a < b then -1 else if b < a then 1 else 0
def fitL (b : Bnd) (c : Int) : Bool := if b.inf < 0 then true else if 0 < b.inf then false else if c = 0 then !b.opn else decide (0 < c)
def fitU (b : Bnd) (c : Int) : Bool := if b.inf < 0 then false else if 0 < b.inf then true else if c = 0 then !b.opn else decide (c < 0)
def scL (b : Bnd) (e : Ent) : Bool := fitL b (cmpI e.2 b.score)
def scU (b : Bnd) (e : Ent) : Bool := fitU b (cmpI e.2 b.score)
def nmL (b : Bnd) (e : Ent) : Bool := fitL b (cmpB e.1 b.name)
def nmU (b : Bnd) (e : Ent) : Bool := fitU b (cmpB e.1 b.name)
theorem ltE_le {x y : Ent} (h : ltE x y) : x.2 ≤ y.2 := by
  rcases h with h | ⟨h, _⟩ <;> omega
theorem fitL_I (b : Bnd) (x y : Int) : fitL b (cmpI x y) = true ↔ b.inf < 0 ∨ (b.inf = 0 ∧ (y < x ∨ (x = y ∧ b.opn = false))) := by
  unfold fitL cmpI
  by_cases h1 : b.inf < 0
  · rw [if_pos h1]; simp [h1]
  · rw [if_neg h1]
    by_cases h2 : 0 < b.inf
    · rw [if_pos h2]; simp; omega
    · rw [if_neg h2]
      have h3 : b.inf = 0 := by omega
      by_cases h4 : x < y
      · rw [if_pos h4]; simp; omega
      · rw [if_neg h4]
        by_cases h5 : y < x
        · rw [if_pos h5]; simp; omega
        · rw [if_neg h5, if_pos rfl]
          have h6 : x = y := by omega
          simp [h3, h6]
theorem fitU_I (b : Bnd) (x y : Int) : fitU b (cmpI x y) = true ↔ 0 < b.inf ∨ (b.inf = 0 ∧ (x < y ∨ (x = y ∧ b.opn = false))) := by
  unfold fitU cmpI
  by_cases h1 : b.inf < 0
  · rw [if_pos h1]; simp; omega
  · rw [if_neg h1]
    by_cases h2 : 0 < b.inf
    · rw [if_pos h2]; simp [h2]
    · rw [if_neg h2]
      have h3 : b.inf = 0 := by omega
      by_cases h4 : x < y
      · rw [if_pos h4]; simp; omega
      · rw [if_neg h4]
        by_cases h5 : y < x
        · rw [if_pos h5]; simp; omega
        · rw [if_neg h5, if_pos rfl]
          have h6 : x = y := by omega
          simp [h3, h6]
theorem scL_dn (b : Bnd) (x y : Ent) (h : ltE x y) (hy : (!scL b y) = true) : (!scL b x) = true := by
  have := ltE_le h
  unfold scL at *
  rw [Bool.not_eq_true', ← Bool.not_eq_true, fitL_I] at *
  intro q
  refine hy (q.imp id ?_)
  rintro ⟨q1, q2⟩
  refine ⟨q1, ?_⟩
  rcases q2 with q2 | ⟨q2, q3⟩
  · exact Or.inl (by omega)
  · by_cases e : y.2 = b.score
    · exact Or.inr ⟨e, q3⟩
    · exact Or.inl (by omega)
theorem scU_dn (b : Bnd) (x y : Ent) (h : ltE x y) (hy : scU b y = true) : scU b x = true := by
  have := ltE_le h
  unfold scU at *
  rw [fitU_I] at *
  refine hy.imp id ?_
  rintro ⟨q1, q2⟩
  refine ⟨q1, ?_⟩
  rcases q2 with q2 | ⟨q2, q3⟩
  · exact Or.inl (by omega)
  · by_cases e : x.2 = b.score
    · exact Or.inr ⟨e, q3⟩
    · exact Or.inl (by omega)
def scF (l : EL) (lo hi : Bnd) : EL := l.filter fun e => scL lo e && scU hi e
def nmF (l : EL) (lo hi : Bnd) : EL := l.filter fun e => nmL lo e && nmU hi e
def cntL (l : EL) (b : Bnd) : Nat := l.countP fun e => !scL b e
def cntU (l : EL) (b : Bnd) : Nat := l.countP (scU b)
theorem cntL_le (l : EL) (b : Bnd) : cntL l b ≤ l.length := List.countP_le_length
theorem cntU_le (l : EL) (b : Bnd) : cntU l b ≤ l.length := List.countP_le_length
theorem scF_eq {l : EL} (h : Srt l) (lo hi : Bnd) : scF l lo hi = (l.drop (cntL l lo)).take (cntU l hi - cntL l lo) := by
  unfold scF cntL cntU
  rw [two_cut (srt_dn h (scL_dn lo)) (srt_dn h (scU_dn hi)), List.drop_take]
def clampN (most : Int) (n : Nat) : Nat := if 0 ≤ most then min n most.toNat else n
theorem cutS_run (l : EL) (f n : Nat) (r : Bool) (hn : f + n ≤ l.length) (skip most : Int) : cutS (runS l f n r) skip most = runS l (f + clampS skip n) (clampN most (n - clampS skip n)) r := by
  have e : (runS l f n r).length = n := by unfold runS; rw [List.length_take, List.length_drop, way_len]; omega
  unfold cutS clampN
  rw [e]
  unfold runS
  rw [List.drop_take, List.drop_drop]
  by_cases h : 0 ≤ most
  · rw [if_pos h, if_pos h, List.take_take, Nat.min_comm]
  · rw [if_neg h, if_neg h]
def scN (l : EL) (lo hi : Bnd) : Nat := cntU l hi - cntL l lo
def scA (l : EL) (lo hi : Bnd) (r : Bool) : Nat := if r then l.length - cntL l lo - scN l lo hi else cntL l lo
theorem scA_le (l : EL) (lo hi : Bnd) (r : Bool) : scA l lo hi r + scN l lo hi ≤ l.length := by
  have h1 := cntL_le l lo
  have h2 := cntU_le l hi
  unfold scA scN
  cases r
  · rw [if_neg (by decide)]; omega
  · rw [if_pos rfl]; omega
theorem way_scF {l : EL} (h : Srt l) (lo hi : Bnd) (r : Bool) : way (scF l lo hi) r = runS l (scA l lo hi r) (scN l lo hi) r := by
  have h1 := cntL_le l lo
  have h2 := cntU_le l hi
  rw [scF_eq h]
  cases r with
  | false => rfl
  | true =>
    have e := run_rev (l := l) (f := scA l lo hi true) (n := scN l lo hi) (scA_le l lo hi true)
    rw [← e]
    unfold way
    rw [if_pos rfl]
    unfold scA scN
    rw [if_pos rfl, show l.length - (l.length - cntL l lo - (cntU l hi - cntL l lo)) - (cntU l hi - cntL l lo) = cntL l lo from by omega]
def scS (l : EL) (lo hi : Bnd) (r : Bool) (skip most : Int) : EL := cutS (way (scF l lo hi) r) skip most
def nmS (l : EL) (lo hi : Bnd) (r : Bool) (skip most : Int) : EL := cutS (way (nmF l lo hi) r) skip most
theorem scS_eq {l : EL} (h : Srt l) (lo hi : Bnd) (r : Bool) (skip most : Int) : scS l lo hi r skip most = runS l (scA l lo hi r + clampS skip (scN l lo hi)) (clampN most (scN l lo hi - clampS skip (scN l lo hi))) r := by
  unfold scS
  rw [way_scF h, cutS_run l _ _ r (scA_le l lo hi r)]
theorem nmF_way (l : EL) (lo hi : Bnd) (r : Bool) : way (nmF l lo hi) r = (way l r).filter fun e => nmL lo e && nmU hi e := by
  cases r
  · rfl
  · unfold way nmF; rw [if_pos rfl, if_pos rfl, List.filter_reverse]
theorem cutS_eq (l : EL) (skip most : Int) : cutS l skip most = (l.drop (clampS skip l.length)).take (clampN most (l.length - clampS skip l.length)) := by
  unfold cutS clampN
  by_cases h : 0 ≤ most
  · rw [if_pos h, if_pos h]
    rw [List.take_eq_take_iff, List.length_drop]
    omega
  · rw [if_neg h, if_neg h, List.take_of_length_le (by rw [List.length_drop]; exact Nat.le_refl _)]
/- slices by places -/
def fromS (n : Nat) (f : Int) : Int := if f < 0 then max (f + n) 0 else f
def toS (n : Nat) (t : Int) : Int := min (if t < 0 then t + n else t) (n - 1)
def slS (l : EL) (f t : Int) (r : Bool) : EL := if toS l.length t < fromS l.length f then [] else runS l (fromS l.length f).toNat (toS l.length t - fromS l.length f + 1).toNat r
/- what is popped -/
def dropAll (l P : EL) : EL := l.filter fun e => !(P.any fun p => p.1 == e.1)
theorem dropAll_nil (l : EL) : dropAll l [] = l := List.filter_eq_self.2 fun _ _ => rfl
theorem dropAll_step (l P : EL) (p : Ent) : wout (dropAll l P) p.1 = dropAll l (P ++ [p]) := by
  unfold wout dropAll
  rw [List.filter_filter]
  refine List.filter_congr fun e _ => ?_
  rw [List.any_append]
  simp only [List.any_cons, List.any_nil, Bool.or_false]
  have : (e.1 == p.1) = (p.1 == e.1) := Bool.beq_comm
  rw [this]
  cases (p.1 == e.1) <;> cases (P.any fun q => q.1 == e.1) <;> rfl
theorem dropAll_take (l P : EL) {i : Nat} (h : i < P.length) : wout (dropAll l (P.take i)) (P[i]'h).1 = dropAll l (P.take (i + 1)) := by
  rw [dropAll_step, List.take_succ_eq_append_getElem h]
theorem dropAll_srt {l : EL} (h : Srt l) (P : EL) : Srt (dropAll l P) := List.Pairwise.sublist List.filter_sublist h
theorem dropAll_uq {l : EL} (u : Uq l) (P : EL) : Uq (dropAll l P) := List.Nodup.sublist (List.Sublist.map _ List.filter_sublist) u
theorem dropAll_len (l P : EL) : (dropAll l P).length ≤ l.length := List.length_filter_le _ _
theorem any_perm {P Q : EL} (h : P.Perm Q) (f : Ent → Bool) : P.any f = Q.any f := by
  rw [Bool.eq_iff_iff, List.any_eq_true, List.any_eq_true]
  constructor
  · rintro ⟨x, hx, e⟩; exact ⟨x, h.mem_iff.1 hx, e⟩
  · rintro ⟨x, hx, e⟩; exact ⟨x, h.mem_iff.2 hx, e⟩
theorem dropAll_perm (l : EL) {P Q : EL} (h : P.Perm Q) : dropAll l P = dropAll l Q := List.filter_congr fun e _ => by rw [any_perm h]
theorem dropAll_app {A B : EL} (u : Uq (A ++ B)) : dropAll (A ++ B) A = B := by
  unfold dropAll
  rw [List.filter_append, flt_no (l := A) (fun e he => by rw [List.any_eq_true.2 ⟨e, he, by simp⟩]; rfl), List.nil_append]
  refine flt_all fun e he => ?_
  cases h : (A.any fun p => p.1 == e.1) with
  | false => rfl
  | true =>
    obtain ⟨p, hp, q⟩ := List.any_eq_true.1 h
    have : p = e := uq_at u (List.mem_append.2 (Or.inl hp)) (List.mem_append.2 (Or.inr he)) (by simpa using q)
    subst this
    exact absurd rfl ((List.nodup_append.1 (uq_nodup u)).2.2 p hp p he)
theorem dropAll_app2 {A B : EL} (u : Uq (A ++ B)) : dropAll (A ++ B) B = A := by
  unfold dropAll
  rw [List.filter_append, flt_no (l := B) (fun e he => by rw [List.any_eq_true.2 ⟨e, he, by simp⟩]; rfl), List.append_nil]
  refine flt_all fun e he => ?_
  cases h : (B.any fun p => p.1 == e.1) with
  | false => rfl
  | true =>
    obtain ⟨p, hp, q⟩ := List.any_eq_true.1 h
    have : p = e := uq_at u (List.mem_append.2 (Or.inr hp)) (List.mem_append.2 (Or.inl he)) (by simpa using q)
    subst this
    exact absurd rfl ((List.nodup_append.1 (uq_nodup u)).2.2 p he p hp)
def popS (l : EL) (k : Nat) (g : Bool) : EL := runS l 0 k g
def leftS (l : EL) (k : Nat) (g : Bool) : EL := if g then l.take (l.length - k) else l.drop k
theorem pop_false (l : EL) (k : Nat) : popS l k false = l.take k := rfl
theorem pop_true {l : EL} {k : Nat} (h : k ≤ l.length) : popS l k true = (l.drop (l.length - k)).reverse := by
  have := run_rev (l := l) (f := 0) (n := k) (by omega)
  unfold popS
  rw [← this, Nat.sub_zero, List.take_of_length_le (by rw [List.length_drop]; omega)]
theorem pop_left {l : EL} (u : Uq l) {k : Nat} (h : k ≤ l.length) (g : Bool) : dropAll l (popS l k g) = leftS l k g := by
  cases g with
  | false =>
    have u2 : Uq (l.take k ++ l.drop k) := by rw [List.take_append_drop]; exact u
    have := dropAll_app u2
    rw [List.take_append_drop] at this
    exact this
  | true =>
    have u2 : Uq (l.take (l.length - k) ++ l.drop (l.length - k)) := by rw [List.take_append_drop]; exact u
    have := dropAll_app2 u2
    rw [List.take_append_drop] at this
    rw [pop_true h, dropAll_perm l (List.reverse_perm _), this]
    rfl
def May (s : Int) : Prop := -9007199254740992 ≤ s ∧ s ≤ 9007199254740992
instance (s : Int) : Decidable (May s) := inferInstanceAs (Decidable (_ ∧ _))
def AllMay (l : EL) : Prop := ∀ e ∈ l, May e.2
instance (l : EL) : Decidable (AllMay l) := inferInstanceAs (Decidable (∀ e ∈ l, May e.2))
instance (l : EL) : Decidable (Uq l) := inferInstanceAs (Decidable (List.Nodup _))
end Go.Proofs.YtighoelipihifabGreatDoor.RankMath3
