/- Fields by rising names, as mathematics: what is set, dropped, found; the map's own datum. -/
import Derived.Maps.OwnSet

namespace Go.Proofs.YtighoelipihifabGreatDoor.MapMath
open Go.Maps
set_option linter.unusedVariables false

abbrev Bs := List UInt8
abbrev FL := List (Bs × Int)
def wout (l : FL) (k : Bs) : FL := l.filter fun p => !(p.1 == k)
def insL (x : Bs × Int) : FL → FL
  | [] => [x]
  | y :: r => if bytesBefore x.1 y.1 then x :: y :: r else y :: insL x r
def withL (l : FL) (k : Bs) (v : Int) : FL := insL (k, v) (wout l k)
def lkp (l : FL) (k : Bs) : Option Int := (l.find? fun p => p.1 == k).map (·.2)
def keys (l : FL) : List Bs := l.map (·.1)
def Ris (l : FL) : Prop := l.Pairwise (fun a b => a.1 < b.1)
def beh (l : FL) (k : Bs) : FL := l.filter fun p => decide (k < p.1)
def pos (l : FL) (k : Bs) : Nat := (l.takeWhile fun p => decide (p.1 < k)).length

theorem lt_tot (a b : Bs) : a < b ∨ a = b ∨ b < a := by
  rcases Decidable.em (a < b) with q | q
  · exact .inl q
  · rcases Decidable.em (b < a) with r | r
    · exact .inr (.inr r)
    · exact .inr (.inl (List.le_antisymm r q))
theorem lt_ne {a b : Bs} (h : a < b) : a ≠ b := fun e => List.lt_irrefl b (e ▸ h)
theorem lt_not {a b : Bs} (h : a < b) : ¬ b < a := fun h2 => List.lt_irrefl a (List.lt_trans h h2)
theorem before_lt : ∀ a b : Bs, bytesBefore a b = decide (a < b)
  | [], [] => rfl
  | [], y :: s => by simp [bytesBefore]
  | x :: r, [] => by simp [bytesBefore]
  | x :: r, y :: s => by
    unfold bytesBefore
    rw [before_lt r s, Bool.eq_iff_iff]
    simp only [Bool.or_eq_true, decide_eq_true_eq, Bool.and_eq_true, beq_iff_eq, List.cons_lt_cons_iff]
theorem Ris.tail {a : Bs × Int} {l : FL} (h : Ris (a :: l)) : Ris l := (List.pairwise_cons.1 h).2
theorem Ris.head {a : Bs × Int} {l : FL} (h : Ris (a :: l)) : ∀ p ∈ l, a.1 < p.1 := (List.pairwise_cons.1 h).1
theorem wout_same {l : FL} {k : Bs} (h : ∀ p ∈ l, p.1 ≠ k) : wout l k = l := List.filter_eq_self.2 fun p hp => by simp [h p hp]
theorem wout_len (l : FL) (k : Bs) : (wout l k).length ≤ l.length := List.length_filter_le _ _
theorem wout_ris {l : FL} (h : Ris l) (k : Bs) : Ris (wout l k) := List.Pairwise.sublist List.filter_sublist h
theorem wout_mem {l : FL} {k : Bs} {p : Bs × Int} (h : p ∈ wout l k) : p ∈ l := (List.mem_filter.1 h).1
theorem ins_mem {x p : Bs × Int} : ∀ {l : FL}, p ∈ insL x l → p = x ∨ p ∈ l
  | [], h => by simp only [insL, List.mem_singleton] at h; exact Or.inl h
  | y :: r, h => by
    unfold insL at h
    split at h
    · rcases List.mem_cons.1 h with h | h
      · exact Or.inl h
      · exact Or.inr h
    · rcases List.mem_cons.1 h with h | h
      · exact Or.inr (List.mem_cons.2 (Or.inl h))
      · rcases ins_mem h with h | h
        · exact Or.inl h
        · exact Or.inr (List.mem_cons.2 (Or.inr h))
theorem ins_len (x : Bs × Int) : ∀ l : FL, (insL x l).length = l.length + 1
  | [] => rfl
  | y :: r => by
    unfold insL
    split
    · rfl
    · simp [ins_len x r]
theorem with_len (l : FL) (k : Bs) (v : Int) : (withL l k v).length ≤ l.length + 1 := by
  unfold withL; rw [ins_len]; have := wout_len l k; omega
theorem with_mem {l : FL} {k : Bs} {v : Int} {p : Bs × Int} (h : p ∈ withL l k v) : p = (k, v) ∨ p ∈ l := (ins_mem h).imp id wout_mem
theorem ins_ris {x : Bs × Int} : ∀ {l : FL}, Ris l → (∀ p ∈ l, p.1 ≠ x.1) → Ris (insL x l)
  | [], _, _ => List.pairwise_singleton _ _
  | y :: r, h, hn => by
    unfold insL
    rw [before_lt]
    by_cases hx : x.1 < y.1
    · rw [if_pos (decide_eq_true hx)]
      refine List.pairwise_cons.2 ⟨fun p hp => ?_, h⟩
      rcases List.mem_cons.1 hp with rfl | hp
      · exact hx
      · exact List.lt_trans hx (h.head p hp)
    · rw [if_neg (by simpa using hx)]
      have hy : y.1 < x.1 := by
        rcases lt_tot x.1 y.1 with q | q | q
        · exact absurd q hx
        · exact absurd q.symm (hn y List.mem_cons_self)
        · exact q
      refine List.pairwise_cons.2 ⟨fun p hp => ?_, ins_ris h.tail (fun p hp => hn p (List.mem_cons_of_mem _ hp))⟩
      rcases ins_mem hp with rfl | hp
      · exact hy
      · exact h.head p hp
theorem wout_none {l : FL} {k : Bs} : ∀ p ∈ wout l k, p.1 ≠ k := fun p hp => by
  have := (List.mem_filter.1 hp).2
  simpa using this
theorem with_ris {l : FL} (h : Ris l) (k : Bs) (v : Int) : Ris (withL l k v) := ins_ris (wout_ris h k) (fun p hp => wout_none p hp)
theorem with_snoc {l : FL} {k : Bs} {v : Int} (h : ∀ p ∈ l, p.1 < k) : withL l k v = l ++ [(k, v)] := by
  unfold withL
  rw [wout_same (fun p hp => lt_ne (h p hp))]
  induction l with
  | nil => rfl
  | cons a r ih =>
    unfold insL
    rw [before_lt, if_neg (by simpa using lt_not (h a List.mem_cons_self)), ih (fun p hp => h p (List.mem_cons_of_mem _ hp))]
    rfl
/- by places -/
theorem lkp_none {l : FL} {k : Bs} (h : ∀ p ∈ l, p.1 ≠ k) : lkp l k = none := by
  unfold lkp
  rw [List.find?_eq_none.2 (fun p hp => by simpa using h p hp)]
  rfl
theorem lkp_cons (a : Bs × Int) (l : FL) (k : Bs) : lkp (a :: l) k = if a.1 = k then some a.2 else lkp l k := by
  unfold lkp
  rw [List.find?_cons]
  by_cases h : a.1 = k
  · rw [if_pos h, show (a.1 == k) = true from by simpa using h]; rfl
  · rw [if_neg h, show (a.1 == k) = false from by simpa using h]
theorem lkp_mem : ∀ {l : FL} {k : Bs} {v : Int}, lkp l k = some v → (k, v) ∈ l
  | a :: r, k, v, h => by
    rw [lkp_cons] at h
    by_cases hk : a.1 = k
    · rw [if_pos hk] at h
      have : a = (k, v) := by cases a; simp at hk h; simp [hk, h]
      rw [this]; exact List.mem_cons_self
    · rw [if_neg hk] at h
      exact List.mem_cons_of_mem _ (lkp_mem h)
theorem lkp_at : ∀ {l : FL}, Ris l → ∀ p ∈ l, lkp l p.1 = some p.2
  | a :: r, h, p, hp => by
    rw [lkp_cons]
    rcases List.mem_cons.1 hp with rfl | hp'
    · rw [if_pos rfl]
    · rw [if_neg (lt_ne (h.head p hp'))]
      exact lkp_at h.tail p hp'
theorem pos_cons_lt {a : Bs × Int} {l : FL} {k : Bs} (h : a.1 < k) : pos (a :: l) k = pos l k + 1 := by
  unfold pos; rw [List.takeWhile_cons, if_pos (decide_eq_true h)]; rfl
theorem pos_cons_ge {a : Bs × Int} {l : FL} {k : Bs} (h : ¬ a.1 < k) : pos (a :: l) k = 0 := by
  unfold pos; rw [List.takeWhile_cons, if_neg (by simpa using h)]; rfl
theorem pos_le : ∀ (l : FL) (k : Bs), pos l k ≤ l.length := fun l k => by unfold pos; exact (List.takeWhile_sublist _).length_le
theorem all_above {a : Bs × Int} {r : FL} {k : Bs} (h : Ris (a :: r)) (hk : ¬ a.1 < k) : ∀ p ∈ r, k < p.1 := fun p hp => by
  rcases lt_tot a.1 k with q | q | q
  · exact absurd q hk
  · rw [← q]; exact h.head p hp
  · exact List.lt_trans q (h.head p hp)
def ok (l : FL) (k : Bs) : Bool := (lkp l k).isSome
theorem with_eq : ∀ {l : FL}, Ris l → ∀ k v, withL l k v = l.take (pos l k) ++ (k, v) :: l.drop (if ok l k then pos l k + 1 else pos l k)
  | [], _, k, v => rfl
  | a :: r, h, k, v => by
    unfold ok
    rw [lkp_cons]
    by_cases hk : a.1 < k
    · have ih := with_eq h.tail k v
      unfold ok at ih
      rw [if_neg (lt_ne hk), pos_cons_lt hk]
      have e1 : withL (a :: r) k v = a :: withL r k v := by
        have e0 : wout (a :: r) k = a :: wout r k := by unfold wout; rw [List.filter_cons, if_pos (by simpa using lt_ne hk)]
        unfold withL
        rw [e0, insL, before_lt, if_neg (by simpa using lt_not hk)]
      rw [e1, ih]
      cases (lkp r k).isSome <;> simp
    · have ha := all_above h hk
      have hr : wout r k = r := wout_same (fun p hp e => List.lt_irrefl k (by have := ha p hp; rw [e] at this; exact this))
      rw [pos_cons_ge hk]
      by_cases he : a.1 = k
      · rw [if_pos he]
        have e1 : wout (a :: r) k = r := by
          have : wout (a :: r) k = wout r k := by unfold wout; rw [List.filter_cons, if_neg (by simpa using he)]
          rw [this, hr]
        unfold withL
        rw [e1]
        cases r with
        | nil => simp [insL]
        | cons b s =>
          unfold insL
          rw [before_lt, if_pos (by simpa using ha b List.mem_cons_self)]
          simp
      · rw [if_neg he]
        have hl : k < a.1 := by
          rcases lt_tot a.1 k with q | q | q
          · exact absurd q hk
          · exact absurd q he
          · exact q
        have e1 : wout (a :: r) k = a :: r := by
          have : wout (a :: r) k = a :: wout r k := by unfold wout; rw [List.filter_cons, if_pos (by simpa using he)]
          rw [this, hr]
        have e2 : lkp r k = none := lkp_none (fun p hp e => List.lt_irrefl k (by have := ha p hp; rw [e] at this; exact this))
        unfold withL
        rw [e1, e2]
        unfold insL
        rw [before_lt, if_pos (by simpa using hl)]
        simp
theorem wout_eq : ∀ {l : FL}, Ris l → ∀ k, ok l k = true → wout l k = l.take (pos l k) ++ l.drop (pos l k + 1)
  | [], _, k, h => by cases h
  | a :: r, h, k, hok => by
    unfold ok at hok
    rw [lkp_cons] at hok
    by_cases hk : a.1 < k
    · rw [if_neg (lt_ne hk)] at hok
      rw [pos_cons_lt hk]
      have e1 : wout (a :: r) k = a :: wout r k := by unfold wout; rw [List.filter_cons, if_pos (by simpa using lt_ne hk)]
      rw [e1, wout_eq h.tail k hok]
      simp
    · have ha := all_above h hk
      have hnr : ∀ p ∈ r, p.1 ≠ k := fun p hp e => List.lt_irrefl k (by have := ha p hp; rw [e] at this; exact this)
      rw [pos_cons_ge hk]
      by_cases he : a.1 = k
      · have e1 : wout (a :: r) k = wout r k := by unfold wout; rw [List.filter_cons, if_neg (by simpa using he)]
        rw [e1, wout_same hnr]
        simp
      · rw [if_neg he, lkp_none hnr] at hok
        cases hok
theorem wout_no {l : FL} {k : Bs} (h : ok l k = false) : wout l k = l := wout_same fun p hp e => by
  unfold ok lkp at h
  rw [Option.isSome_map, List.isSome_find?] at h
  have := List.any_eq_false.1 h p hp
  simp [e] at this
theorem ok_iff {l : FL} {k : Bs} : ok l k = true ↔ ∃ p ∈ l, p.1 = k := by
  unfold ok lkp
  rw [Option.isSome_map, List.isSome_find?, List.any_eq_true]
  simp
theorem wout_len_ok {l : FL} (h : Ris l) {k : Bs} (hk : ok l k = true) : (wout l k).length + 1 = l.length := by
  rw [wout_eq h k hk, List.length_append, List.length_take, List.length_drop]
  have hp : pos l k < l.length := by
    obtain ⟨p, hp, e⟩ := ok_iff.1 hk
    induction l with
    | nil => cases hp
    | cons a r ih =>
      by_cases hl : a.1 < k
      · rw [pos_cons_lt hl]
        rcases List.mem_cons.1 hp with rfl | hp'
        · exact absurd e (lt_ne hl)
        · have := ih h.tail (ok_iff.2 ⟨p, hp', e⟩) hp'
          simp; omega
      · rw [pos_cons_ge hl]; simp
  omega
theorem with_len_eq {l : FL} (h : Ris l) (k : Bs) (v : Int) : (withL l k v).length = if ok l k then l.length else l.length + 1 := by
  unfold withL
  rw [ins_len]
  cases hk : ok l k with
  | true => rw [if_pos rfl]; exact wout_len_ok h hk
  | false => rw [wout_no hk]; rfl
theorem lkp_wout (l : FL) (k x : Bs) (h : x ≠ k) : lkp (wout l k) x = lkp l x := by
  induction l with
  | nil => rfl
  | cons a r ih =>
    by_cases hk : a.1 = k
    · have e1 : wout (a :: r) k = wout r k := by unfold wout; rw [List.filter_cons, if_neg (by simpa using hk)]
      rw [e1, ih, lkp_cons, if_neg (fun e => h (by rw [← e, hk]))]
    · have e1 : wout (a :: r) k = a :: wout r k := by unfold wout; rw [List.filter_cons, if_pos (by simpa using hk)]
      rw [e1, lkp_cons, lkp_cons, ih]
theorem lkp_ins (x : Bs × Int) (k : Bs) : ∀ l : FL, (∀ p ∈ l, p.1 ≠ x.1) → lkp (insL x l) k = if x.1 = k then some x.2 else lkp l k
  | [], _ => by unfold insL; rw [lkp_cons]
  | y :: r, h => by
    unfold insL
    split
    · rw [lkp_cons]
    · rw [lkp_cons, lkp_ins x k r (fun p hp => h p (List.mem_cons_of_mem _ hp)), lkp_cons]
      by_cases hx : x.1 = k
      · rw [if_pos hx, if_neg (fun e => h y List.mem_cons_self (by rw [e, hx]))]
        rw [if_pos hx]
      · rw [if_neg hx, if_neg hx]
theorem lkp_with (l : FL) (k : Bs) (v : Int) (x : Bs) : lkp (withL l k v) x = if k = x then some v else lkp l x := by
  unfold withL
  rw [lkp_ins (k, v) x (wout l k) (fun p hp => wout_none p hp)]
  by_cases h : k = x
  · rw [if_pos h, if_pos h]
  · rw [if_neg h, if_neg h, lkp_wout l k x (fun e => h e.symm)]
theorem beh_eq : ∀ {l : FL}, Ris l → ∀ k, beh l k = l.drop (if ok l k then pos l k + 1 else pos l k)
  | [], _, k => by simp [beh]
  | a :: r, h, k => by
    unfold ok
    rw [lkp_cons]
    by_cases hk : a.1 < k
    · have ih := beh_eq h.tail k
      unfold ok at ih
      rw [if_neg (lt_ne hk), pos_cons_lt hk]
      have e1 : beh (a :: r) k = beh r k := by unfold beh; rw [List.filter_cons, if_neg (by simpa using lt_not hk)]
      rw [e1, ih]
      cases (lkp r k).isSome <;> simp
    · have ha := all_above h hk
      have e3 : beh r k = r := List.filter_eq_self.2 fun p hp => by simpa using ha p hp
      rw [pos_cons_ge hk]
      by_cases he : a.1 = k
      · rw [if_pos he]
        have e1 : beh (a :: r) k = beh r k := by unfold beh; rw [List.filter_cons, if_neg (by rw [he]; simp)]
        rw [e1, e3]
        simp
      · rw [if_neg he]
        have hl : k < a.1 := by
          rcases lt_tot a.1 k with q | q | q
          · exact absurd q hk
          · exact absurd q he
          · exact q
        have e1 : beh (a :: r) k = a :: beh r k := by unfold beh; rw [List.filter_cons, if_pos (by simpa using hl)]
        have e2 : lkp r k = none := lkp_none (fun p hp e => List.lt_irrefl k (by have := ha p hp; rw [e] at this; exact this))
        rw [e1, e3, e2]
        simp
/- the map's own datum -/
abbrev ent (p : Bs × Int) : Lit × DataW Unit := (.string p.1, .lit (.int .i64 p.2))
def toD (l : FL) : DataW Unit := .map (l.map ent)
theorem filter_D (k : Bs) : ∀ l : FL, ((l.map ent).filter fun p => !p.1.sameKey (.string k)) = (wout l k).map ent
  | [] => rfl
  | y :: r => by
    have e : ((Lit.string y.1).sameKey (.string k)) = (y.1 == k) := rfl
    show List.filter _ (_ :: _) = (wout (y :: r) k).map _
    unfold wout
    rw [List.filter_cons, List.filter_cons]
    show (if (!(Lit.string y.1).sameKey (.string k)) = true then _ else _) = _
    rw [e]
    by_cases h : (!(y.1 == k)) = true
    · rw [if_pos h, if_pos h, filter_D k r]; rfl
    · rw [if_neg h, if_neg h, filter_D k r]; rfl
theorem insert_D (x : Bs × Int) : ∀ l : FL, DataW.insert (ent x) (l.map ent) = (insL x l).map ent
  | [] => rfl
  | y :: r => by
    have e : ((Lit.string x.1).before (.string y.1)) = bytesBefore x.1 y.1 := rfl
    show DataW.insert _ (_ :: _) = _
    unfold DataW.insert insL
    show (if (Lit.string x.1).before (.string y.1) = true then _ else _) = _
    rw [e]
    by_cases h : bytesBefore x.1 y.1 = true
    · rw [if_pos h, if_pos h]; rfl
    · rw [if_neg h, if_neg h, insert_D x r]; rfl
theorem del_D (l : FL) (k : Bs) : (toD l).del (.string k) = toD (wout l k) := congrArg DataW.map (filter_D k l)
theorem put_D (l : FL) (k : Bs) (v : Int) : (toD l).put (.string k) (.lit (.int .i64 v)) = toD (withL l k v) := by
  show DataW.map (DataW.insert _ (List.filter _ _)) = _
  rw [filter_D k l]
  exact congrArg DataW.map (insert_D (k, v) _)
theorem has_D (l : FL) (k : Bs) : has (toD l) (.string k) = ok l k := by
  show (l.map _).any _ = _
  unfold ok lkp
  rw [List.any_map, Option.isSome_map, List.isSome_find?]
  rfl
theorem at_D (l : FL) (k : Bs) : (toD l).atKey (.string k) (.lit (.int .i64 0)) = .lit (.int .i64 ((lkp l k).getD 0)) := by
  unfold toD DataW.atKey
  dsimp only
  unfold lkp
  rw [List.find?_map]
  have e : ((fun p : Lit × DataW Unit => p.1.sameKey (.string k)) ∘ ent) = fun p => p.1 == k := rfl
  rw [e]
  cases l.find? (fun p => p.1 == k) <;> rfl
theorem size_D (l : FL) : Maps.size (toD l) = l.length := by
  show (l.map _).length = _
  simp
end Go.Proofs.YtighoelipihifabGreatDoor.MapMath
