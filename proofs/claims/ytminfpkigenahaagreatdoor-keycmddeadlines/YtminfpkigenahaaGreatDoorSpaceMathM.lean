/- Keys with what they hold, by rising keys, as mathematics: what is set, dropped, found; the map's own datum. A row in the order of a heap, over any strict total order: what up and down keep; no program is met here. The entries of a heap in their order, by the places at which the next one may stand; no program is met here. container/heap's up and down over what the program moves by them: given what Less and Swap do. -/
import Derived.Maps.OwnSet
import Derived.Sort.KeysCollected
import Derived.RowKit
import Derived.Test.YtminfpkigenahaaGreatDoorProg
import Derived.WalkKit
import Derived.Below
import Derived.Deep.LoopGhost
section
namespace Go.Proofs.YtminfpkigenahaaGreatDoor.SpaceMath
open Go.Maps
set_option linter.unusedVariables false
set_option linter.unusedSimpArgs false

abbrev Bs := List UInt8
abbrev FL (α : Type) := List (Bs × α)
variable {α : Type}
def wout (l : FL α) (k : Bs) : FL α := l.filter fun p => !(p.1 == k)
def insL (x : Bs × α) : FL α → FL α
  | [] => [x]
  | y :: r => if bytesBefore x.1 y.1 then x :: y :: r else y :: insL x r
def withL (l : FL α) (k : Bs) (v : α) : FL α := insL (k, v) (wout l k)
def lkp (l : FL α) (k : Bs) : Option α := (l.find? fun p => p.1 == k).map (·.2)
def keys (l : FL α) : List Bs := l.map (·.1)
def Ris (l : FL α) : Prop := l.Pairwise (fun a b => a.1 < b.1)
def beh (l : FL α) (k : Bs) : FL α := l.filter fun p => decide (k < p.1)
def pos (l : FL α) (k : Bs) : Nat := (l.takeWhile fun p => decide (p.1 < k)).length

theorem lt_tot (a b : Bs) : a < b ∨ a = b ∨ b < a := by
  rcases Decidable.em (a < b) with q | q
  · exact .inl q
  · rcases Decidable.em (b < a) with r | r
    · exact .inr (.inr r)
    · exact .inr (.inl (List.le_antisymm r q))
theorem lt_ne {a b : Bs} (h : a < b) : a ≠ b := fun e => List.lt_irrefl b (e ▸ h)
theorem lt_not {a b : Bs} (h : a < b) : ¬ b < a := fun h2 => List.lt_irrefl a (List.lt_trans h h2)
theorem before_lt : ∀ a b : Bs, bytesBefore a b = decide (a < b)
  | [], [] => rfl
  | [], y :: s => by simp [bytesBefore]
  | x :: r, [] => by simp [bytesBefore]
  | x :: r, y :: s => by
    unfold bytesBefore
    rw [before_lt r s, Bool.eq_iff_iff]
    simp only [Bool.or_eq_true, decide_eq_true_eq, Bool.and_eq_true, beq_iff_eq, List.cons_lt_cons_iff]
theorem Ris.tail {a : Bs × α} {l : FL α} (h : Ris (a :: l)) : Ris l := (List.pairwise_cons.1 h).2
theorem Ris.head {a : Bs × α} {l : FL α} (h : Ris (a :: l)) : ∀ p ∈ l, a.1 < p.1 := (List.pairwise_cons.1 h).1
theorem wout_same {l : FL α} {k : Bs} (h : ∀ p ∈ l, p.1 ≠ k) : wout l k = l := List.filter_eq_self.2 fun p hp => by simp [h p hp]
theorem wout_len (l : FL α) (k : Bs) : (wout l k).length ≤ l.length := List.length_filter_le _ _
theorem wout_ris {l : FL α} (h : Ris l) (k : Bs) : Ris (wout l k) := List.Pairwise.sublist List.filter_sublist h
theorem wout_mem {l : FL α} {k : Bs} {p : Bs × α} (h : p ∈ wout l k) : p ∈ l := (List.mem_filter.1 h).1
theorem ins_mem {x p : Bs × α} : ∀ {l : FL α}, p ∈ insL x l → p = x ∨ p ∈ l
  | [], h => by simp only [insL, List.mem_singleton] at h; exact Or.inl h
  | y :: r, h => by
    unfold insL at h
    split at h
    · rcases List.mem_cons.1 h with h | h
      · exact Or.inl h
      · exact Or.inr h
    · rcases List.mem_cons.1 h with h | h
      · exact Or.inr (List.mem_cons.2 (Or.inl h))
      · rcases ins_mem h with h | h
        · exact Or.inl h
        · exact Or.inr (List.mem_cons.2 (Or.inr h))
theorem ins_len (x : Bs × α) : ∀ l : FL α, (insL x l).length = l.length + 1
  | [] => rfl
  | y :: r => by
    unfold insL
    split
    · rfl
    · simp [ins_len x r]
theorem with_len (l : FL α) (k : Bs) (v : α) : (withL l k v).length ≤ l.length + 1 := by
  unfold withL; rw [ins_len]; have := wout_len l k; omega
theorem with_mem {l : FL α} {k : Bs} {v : α} {p : Bs × α} (h : p ∈ withL l k v) : p = (k, v) ∨ p ∈ l := (ins_mem h).imp id wout_mem
theorem ins_ris {x : Bs × α} : ∀ {l : FL α}, Ris l → (∀ p ∈ l, p.1 ≠ x.1) → Ris (insL x l)
  | [], _, _ => List.pairwise_singleton _ _
  | y :: r, h, hn => by
    unfold insL
    rw [before_lt]
    by_cases hx : x.1 < y.1
    · rw [if_pos (decide_eq_true hx)]
      refine List.pairwise_cons.2 ⟨fun p hp => ?_, h⟩
      rcases List.mem_cons.1 hp with rfl | hp
      · exact hx
      · exact List.lt_trans hx (h.head p hp)
    · rw [if_neg (by simpa using hx)]
      have hy : y.1 < x.1 := by
        rcases lt_tot x.1 y.1 with q | q | q
        · exact absurd q hx
        · exact absurd q.symm (hn y List.mem_cons_self)
        · exact q
      refine List.pairwise_cons.2 ⟨fun p hp => ?_, ins_ris h.tail (fun p hp => hn p (List.mem_cons_of_mem _ hp))⟩
      rcases ins_mem hp with rfl | hp
      · exact hy
      · exact h.head p hp
theorem wout_none {l : FL α} {k : Bs} : ∀ p ∈ wout l k, p.1 ≠ k := fun p hp => by
  have := (List.mem_filter.1 hp).2
  simpa using this
theorem with_ris {l : FL α} (h : Ris l) (k : Bs) (v : α) : Ris (withL l k v) := ins_ris (wout_ris h k) (fun p hp => wout_none p hp)
theorem with_snoc {l : FL α} {k : Bs} {v : α} (h : ∀ p ∈ l, p.1 < k) : withL l k v = l ++ [(k, v)] := by
  unfold withL
  rw [wout_same (fun p hp => lt_ne (h p hp))]
  induction l with
  | nil => rfl
  | cons a r ih =>
    unfold insL
    rw [before_lt, if_neg (by simpa using lt_not (h a List.mem_cons_self)), ih (fun p hp => h p (List.mem_cons_of_mem _ hp))]
    rfl
/- by places -/
theorem lkp_none {l : FL α} {k : Bs} (h : ∀ p ∈ l, p.1 ≠ k) : lkp l k = none := by
  unfold lkp
  rw [List.find?_eq_none.2 (fun p hp => by simpa using h p hp)]
  rfl
theorem lkp_cons (a : Bs × α) (l : FL α) (k : Bs) : lkp (a :: l) k = if a.1 = k then some a.2 else lkp l k := by
  unfold lkp
  rw [List.find?_cons]
  by_cases h : a.1 = k
  · rw [if_pos h, show (a.1 == k) = true from by simpa using h]; rfl
  · rw [if_neg h, show (a.1 == k) = false from by simpa using h]
theorem lkp_mem : ∀ {l : FL α} {k : Bs} {v : α}, lkp l k = some v → (k, v) ∈ l
  | a :: r, k, v, h => by
    rw [lkp_cons] at h
    by_cases hk : a.1 = k
    · rw [if_pos hk] at h
      have : a = (k, v) := by cases a; simp at hk h; simp [hk, h]
      rw [this]; exact List.mem_cons_self
    · rw [if_neg hk] at h
      exact List.mem_cons_of_mem _ (lkp_mem h)
theorem lkp_at : ∀ {l : FL α}, Ris l → ∀ p ∈ l, lkp l p.1 = some p.2
  | a :: r, h, p, hp => by
    rw [lkp_cons]
    rcases List.mem_cons.1 hp with rfl | hp'
    · rw [if_pos rfl]
    · rw [if_neg (lt_ne (h.head p hp'))]
      exact lkp_at h.tail p hp'
theorem pos_cons_lt {a : Bs × α} {l : FL α} {k : Bs} (h : a.1 < k) : pos (a :: l) k = pos l k + 1 := by
  unfold pos; rw [List.takeWhile_cons, if_pos (decide_eq_true h)]; rfl
theorem pos_cons_ge {a : Bs × α} {l : FL α} {k : Bs} (h : ¬ a.1 < k) : pos (a :: l) k = 0 := by
  unfold pos; rw [List.takeWhile_cons, if_neg (by simpa using h)]; rfl
theorem pos_le : ∀ (l : FL α) (k : Bs), pos l k ≤ l.length := fun l k => by unfold pos; exact (List.takeWhile_sublist _).length_le
theorem all_above {a : Bs × α} {r : FL α} {k : Bs} (h : Ris (a :: r)) (hk : ¬ a.1 < k) : ∀ p ∈ r, k < p.1 := fun p hp => by
  rcases lt_tot a.1 k with q | q | q
  · exact absurd q hk
  · rw [← q]; exact h.head p hp
  · exact List.lt_trans q (h.head p hp)
def ok (l : FL α) (k : Bs) : Bool := (lkp l k).isSome
theorem with_eq : ∀ {l : FL α}, Ris l → ∀ k v, withL l k v = l.take (pos l k) ++ (k, v) :: l.drop (if ok l k then pos l k + 1 else pos l k)
  | [], _, k, v => rfl
  | a :: r, h, k, v => by
    unfold ok
    rw [lkp_cons]
    by_cases hk : a.1 < k
    · have ih := with_eq h.tail k v
      unfold ok at ih
      rw [if_neg (lt_ne hk), pos_cons_lt hk]
      have e1 : withL (a :: r) k v = a :: withL r k v := by
        have e0 : wout (a :: r) k = a :: wout r k := by unfold wout; rw [List.filter_cons, if_pos (by simpa using lt_ne hk)]
        unfold withL
        rw [e0, insL, before_lt, if_neg (by simpa using lt_not hk)]
      rw [e1, ih]
      cases (lkp r k).isSome <;> simp
    · have ha := all_above h hk
      have hr : wout r k = r := wout_same (fun p hp e => List.lt_irrefl k (by have := ha p hp; rw [e] at this; exact this))
      rw [pos_cons_ge hk]
      by_cases he : a.1 = k
      · rw [if_pos he]
        have e1 : wout (a :: r) k = r := by
          have : wout (a :: r) k = wout r k := by unfold wout; rw [List.filter_cons, if_neg (by simpa using he)]
          rw [this, hr]
        unfold withL
        rw [e1]
        cases r with
        | nil => simp [insL]
        | cons b s =>
          unfold insL
          rw [before_lt, if_pos (by simpa using ha b List.mem_cons_self)]
          simp
      · rw [if_neg he]
        have hl : k < a.1 := by
          rcases lt_tot a.1 k with q | q | q
          · exact absurd q hk
          · exact absurd q he
          · exact q
        have e1 : wout (a :: r) k = a :: r := by
          have : wout (a :: r) k = a :: wout r k := by unfold wout; rw [List.filter_cons, if_pos (by simpa using he)]
          rw [this, hr]
        have e2 : lkp r k = none := lkp_none (fun p hp e => List.lt_irrefl k (by have := ha p hp; rw [e] at this; exact this))
        unfold withL
        rw [e1, e2]
        unfold insL
        rw [before_lt, if_pos (by simpa using hl)]
        simp
theorem wout_eq : ∀ {l : FL α}, Ris l → ∀ k, ok l k = true → wout l k = l.take (pos l k) ++ l.drop (pos l k + 1)
  | [], _, k, h => by cases h
  | a :: r, h, k, hok => by
    unfold ok at hok
    rw [lkp_cons] at hok
    by_cases hk : a.1 < k
    · rw [if_neg (lt_ne hk)] at hok
      rw [pos_cons_lt hk]
      have e1 : wout (a :: r) k = a :: wout r k := by unfold wout; rw [List.filter_cons, if_pos (by simpa using lt_ne hk)]
      rw [e1, wout_eq h.tail k hok]
      simp
    · have ha := all_above h hk
      have hnr : ∀ p ∈ r, p.1 ≠ k := fun p hp e => List.lt_irrefl k (by have := ha p hp; rw [e] at this; exact this)
      rw [pos_cons_ge hk]
      by_cases he : a.1 = k
      · have e1 : wout (a :: r) k = wout r k := by unfold wout; rw [List.filter_cons, if_neg (by simpa using he)]
        rw [e1, wout_same hnr]
        simp
      · rw [if_neg he, lkp_none hnr] at hok
        cases hok
theorem wout_no {l : FL α} {k : Bs} (h : ok l k = false) : wout l k = l := wout_same fun p hp e => by
  unfold ok lkp at h
  rw [Option.isSome_map, List.isSome_find?] at h
  have := List.any_eq_false.1 h p hp
  simp [e] at this
theorem ok_iff {l : FL α} {k : Bs} : ok l k = true ↔ ∃ p ∈ l, p.1 = k := by
  unfold ok lkp
  rw [Option.isSome_map, List.isSome_find?, List.any_eq_true]
  simp
theorem wout_len_ok {l : FL α} (h : Ris l) {k : Bs} (hk : ok l k = true) : (wout l k).length + 1 = l.length := by
  rw [wout_eq h k hk, List.length_append, List.length_take, List.length_drop]
  have hp : pos l k < l.length := by
    obtain ⟨p, hp, e⟩ := ok_iff.1 hk
    induction l with
    | nil => cases hp
    | cons a r ih =>
      by_cases hl : a.1 < k
      · rw [pos_cons_lt hl]
        rcases List.mem_cons.1 hp with rfl | hp'
        · exact absurd e (lt_ne hl)
        · have := ih h.tail (ok_iff.2 ⟨p, hp', e⟩) hp'
          simp; omega
      · rw [pos_cons_ge hl]; simp
  omega
theorem with_len_eq {l : FL α} (h : Ris l) (k : Bs) (v : α) : (withL l k v).length = if ok l k then l.length else l.length + 1 := by
  unfold withL
  rw [ins_len]
  cases hk : ok l k with
  | true => rw [if_pos rfl]; exact wout_len_ok h hk
  | false => rw [wout_no hk]; rfl
theorem lkp_wout (l : FL α) (k x : Bs) (h : x ≠ k) : lkp (wout l k) x = lkp l x := by
  induction l with
  | nil => rfl
  | cons a r ih =>
    by_cases hk : a.1 = k
    · have e1 : wout (a :: r) k = wout r k := by unfold wout; rw [List.filter_cons, if_neg (by simpa using hk)]
      rw [e1, ih, lkp_cons, if_neg (fun e => h (by rw [← e, hk]))]
    · have e1 : wout (a :: r) k = a :: wout r k := by unfold wout; rw [List.filter_cons, if_pos (by simpa using hk)]
      rw [e1, lkp_cons, lkp_cons, ih]
theorem lkp_ins (x : Bs × α) (k : Bs) : ∀ l : FL α, (∀ p ∈ l, p.1 ≠ x.1) → lkp (insL x l) k = if x.1 = k then some x.2 else lkp l k
  | [], _ => by unfold insL; rw [lkp_cons]
  | y :: r, h => by
    unfold insL
    split
    · rw [lkp_cons]
    · rw [lkp_cons, lkp_ins x k r (fun p hp => h p (List.mem_cons_of_mem _ hp)), lkp_cons]
      by_cases hx : x.1 = k
      · rw [if_pos hx, if_neg (fun e => h y List.mem_cons_self (by rw [e, hx]))]
        rw [if_pos hx]
      · rw [if_neg hx, if_neg hx]
theorem lkp_with (l : FL α) (k : Bs) (v : α) (x : Bs) : lkp (withL l k v) x = if k = x then some v else lkp l x := by
  unfold withL
  rw [lkp_ins (k, v) x (wout l k) (fun p hp => wout_none p hp)]
  by_cases h : k = x
  · rw [if_pos h, if_pos h]
  · rw [if_neg h, if_neg h, lkp_wout l k x (fun e => h e.symm)]
theorem beh_eq : ∀ {l : FL α}, Ris l → ∀ k, beh l k = l.drop (if ok l k then pos l k + 1 else pos l k)
  | [], _, k => by simp [beh]
  | a :: r, h, k => by
    unfold ok
    rw [lkp_cons]
    by_cases hk : a.1 < k
    · have ih := beh_eq h.tail k
      unfold ok at ih
      rw [if_neg (lt_ne hk), pos_cons_lt hk]
      have e1 : beh (a :: r) k = beh r k := by unfold beh; rw [List.filter_cons, if_neg (by simpa using lt_not hk)]
      rw [e1, ih]
      cases (lkp r k).isSome <;> simp
    · have ha := all_above h hk
      have e3 : beh r k = r := List.filter_eq_self.2 fun p hp => by simpa using ha p hp
      rw [pos_cons_ge hk]
      by_cases he : a.1 = k
      · rw [if_pos he]
        have e1 : beh (a :: r) k = beh r k := by unfold beh; rw [List.filter_cons, if_neg (by rw [he]; simp)]
        rw [e1, e3]
        simp
      · rw [if_neg he]
        have hl : k < a.1 := by
          rcases lt_tot a.1 k with q | q | q
          · exact absurd q hk
          · exact absurd q he
          · exact q
        have e1 : beh (a :: r) k = a :: beh r k := by unfold beh; rw [List.filter_cons, if_pos (by simpa using hl)]
        have e2 : lkp r k = none := lkp_none (fun p hp e => List.lt_irrefl k (by have := ha p hp; rw [e] at this; exact this))
        rw [e1, e3, e2]
        simp
/- the map's own datum -/
abbrev ent (p : Bs × Value) : Lit × DataW Value := (.string p.1, .held p.2)
def toD (l : FL Value) : DataW Value := .map (l.map ent)
theorem filter_D (k : Bs) : ∀ l : FL Value, ((l.map ent).filter fun p => !p.1.sameKey (.string k)) = (wout l k).map ent
  | [] => rfl
  | y :: r => by
    have e : ((Lit.string y.1).sameKey (.string k)) = (y.1 == k) := rfl
    show List.filter _ (_ :: _) = (wout (y :: r) k).map _
    unfold wout
    rw [List.filter_cons, List.filter_cons]
    show (if (!(Lit.string y.1).sameKey (.string k)) = true then _ else _) = _
    rw [e]
    by_cases h : (!(y.1 == k)) = true
    · rw [if_pos h, if_pos h, filter_D k r]; rfl
    · rw [if_neg h, if_neg h, filter_D k r]; rfl
theorem insert_D (x : Bs × Value) : ∀ l : FL Value, DataW.insert (ent x) (l.map ent) = (insL x l).map ent
  | [] => rfl
  | y :: r => by
    have e : ((Lit.string x.1).before (.string y.1)) = bytesBefore x.1 y.1 := rfl
    show DataW.insert _ (_ :: _) = _
    unfold DataW.insert insL
    show (if (Lit.string x.1).before (.string y.1) = true then _ else _) = _
    rw [e]
    by_cases h : bytesBefore x.1 y.1 = true
    · rw [if_pos h, if_pos h]; rfl
    · rw [if_neg h, if_neg h, insert_D x r]; rfl
theorem del_D (l : FL Value) (k : Bs) : (toD l).del (.string k) = toD (wout l k) := congrArg DataW.map (filter_D k l)
theorem put_D (l : FL Value) (k : Bs) (v : Value) : (toD l).put (.string k) (.held v) = toD (withL l k v) := by
  show DataW.map (DataW.insert _ (List.filter _ _)) = _
  rw [filter_D k l]
  exact congrArg DataW.map (insert_D (k, v) _)
theorem has_D (l : FL Value) (k : Bs) : has (toD l) (.string k) = ok l k := by
  show (l.map _).any _ = _
  unfold ok lkp
  rw [List.any_map, Option.isSome_map, List.isSome_find?]
  rfl
theorem at_D (l : FL Value) (k : Bs) (z : Value) : (toD l).atKey (.string k) (.held z) = .held ((lkp l k).getD z) := by
  unfold toD DataW.atKey
  dsimp only
  unfold lkp
  rw [List.find?_map]
  have e : ((fun p : Lit × DataW Value => p.1.sameKey (.string k)) ∘ ent) = fun p => p.1 == k := rfl
  rw [e]
  cases l.find? (fun p => p.1 == k) <;> rfl
theorem size_D (l : FL Value) : Maps.size (toD l) = l.length := by
  show (l.map _).length = _
  simp
theorem keys_D (l : FL Value) : strKeys (toD l) = keys l := by
  show (l.map _).map _ = l.map _
  rw [List.map_map]; rfl
theorem ris_keys {l : FL Value} (h : Ris l) : (keys l).Pairwise (fun a b => a ≤ b) := by
  unfold keys
  rw [List.pairwise_map]
  exact h.imp fun h => List.le_of_lt h
theorem sort_keys {l : List Bs} (h : l.Pairwise (fun a b => a ≤ b)) : l.mergeSort leB = l := by
  refine List.mergeSort_of_pairwise (h.imp ?_)
  intro a b hab
  simpa [leB] using hab
end Go.Proofs.YtminfpkigenahaaGreatDoor.SpaceMath
end
section
namespace Go.Proofs.YtminfpkigenahaaGreatDoor.HeapMath
set_option linter.unusedVariables false
set_option linter.unusedSimpArgs false

section
variable {α : Type} (lt : α → α → Prop)
/-- an order in which what is not before goes on -/
structure STO : Prop where
  irr : ∀ a, ¬ lt a a
  trans : ∀ a b c, lt a b → lt b c → lt a c
  nt : ∀ a b c, ¬ lt b a → ¬ lt c b → ¬ lt c a
variable {lt}
theorem STO.le_trans (h : STO lt) {a b c : α} (h1 : ¬ lt b a) (h2 : ¬ lt c b) : ¬ lt c a := h.nt a b c h1 h2
theorem STO.asymm (h : STO lt) {a b : α} (h1 : lt a b) : ¬ lt b a := fun h2 => h.irr _ (h.trans _ _ _ h1 h2)
theorem STO.pull {β : Type} (h : STO lt) (f : β → α) : STO (fun a b => lt (f a) (f b)) := ⟨fun a => h.irr _, fun a b c => h.trans _ _ _, fun a b c => h.nt _ _ _⟩
theorem STO.of_tot (irr : ∀ a, ¬ lt a a) (trans : ∀ a b c, lt a b → lt b c → lt a c) (tot : ∀ a b, a ≠ b → lt a b ∨ lt b a) : STO lt := by
  refine ⟨irr, trans, fun a b c h1 h2 h3 => ?_⟩
  by_cases q : a = b
  · subst q; exact h2 h3
  · rcases tot a b q with r | r
    · exact h2 (trans _ _ _ h3 r)
    · exact h1 r
variable [Inhabited α]
def pl (l : List α) (i : Nat) : α := l.getD i default
def par (i : Nat) : Nat := (i - 1) / 2
theorem par_lt {i : Nat} (h : 0 < i) : par i < i := by unfold par; omega
theorem par_eq {k i : Nat} (hk : 0 < k) : par k = i ↔ k = 2 * i + 1 ∨ k = 2 * i + 2 := by unfold par; omega
def swp (l : List α) (i j : Nat) : List α := (l.set i (pl l j)).set j (pl l i)
theorem swp_len (l : List α) (i j : Nat) : (swp l i j).length = l.length := by simp [swp]
theorem pl_set {l : List α} {i : Nat} (h : i < l.length) (a : α) (k : Nat) : pl (l.set i a) k = if k = i then a else pl l k := by
  unfold pl
  by_cases q : k = i
  · subst q; simp [List.getD, h]
  · rw [if_neg q]; simp [List.getD, List.getElem?_set_ne (Ne.symm q)]
theorem swp_at {l : List α} {i j : Nat} (hi : i < l.length) (hj : j < l.length) (k : Nat) : pl (swp l i j) k = if k = j then pl l i else if k = i then pl l j else pl l k := by
  unfold swp
  rw [pl_set (by simpa using hj), pl_set hi]
theorem pl_in {l : List α} {i : Nat} (h : i < l.length) : pl l i = l[i] := by unfold pl; simp [List.getD, h]
theorem swp_self (l : List α) (i : Nat) (h : i < l.length) : swp l i i = l := by
  apply List.ext_getElem (by simp [swp])
  intro k h1 h2
  have := swp_at h h k
  rw [pl_in h1, pl_in h2] at this
  rw [this]
  by_cases q : k = i
  · subst q; rw [if_pos rfl, pl_in h]
  · rw [if_neg q, if_neg q]
theorem swp_perm [DecidableEq α] {l : List α} {i j : Nat} (hi : i < l.length) (hj : j < l.length) : (swp l i j).Perm l := by
  by_cases q : i = j
  · subst q; rw [swp_self l i hi]
  · rw [List.perm_iff_count]
    intro a
    unfold swp
    rw [List.count_set (by simpa using hj), List.count_set hi]
    have e : (l.set i (pl l j))[j]'(by simpa using hj) = pl l j := by rw [List.getElem_set, if_neg q, pl_in hj]
    rw [e, pl_in hi, pl_in hj]
    have c1 : (if l[i] == a then 1 else 0) ≤ l.count a := by
      split
      · rename_i h; exact List.one_le_count_iff.2 (by rw [← (beq_iff_eq.1 h)]; exact List.getElem_mem hi)
      · exact Nat.zero_le _
    omega
/-- none comes before the one that it hangs on -/
def Hp (lt : α → α → Prop) (l : List α) (n : Nat) : Prop := ∀ k, 0 < k → k < n → ¬ lt (pl l k) (pl l (par k))
/-- all but what hangs at j -/
def Up (lt : α → α → Prop) (l : List α) (n j : Nat) : Prop := (∀ k, 0 < k → k < n → k ≠ j → ¬ lt (pl l k) (pl l (par k))) ∧ (∀ k, 0 < k → k < n → par k = j → 0 < j → ¬ lt (pl l k) (pl l (par j)))
/-- all but what hangs on i -/
def Dn (lt : α → α → Prop) (l : List α) (n i : Nat) : Prop := (∀ k, 0 < k → k < n → par k ≠ i → ¬ lt (pl l k) (pl l (par k))) ∧ (∀ k, 0 < k → k < n → par k = i → 0 < i → ¬ lt (pl l k) (pl l (par i)))
/-- all but what hangs at i or on i -/
def D0 (lt : α → α → Prop) (l : List α) (n i : Nat) : Prop := (∀ k, 0 < k → k < n → k ≠ i → par k ≠ i → ¬ lt (pl l k) (pl l (par k))) ∧ (∀ k, 0 < k → k < n → par k = i → 0 < i → ¬ lt (pl l k) (pl l (par i)))
theorem Up.step (o : STO lt) {l : List α} {n j : Nat} (h : Up lt l n j) (hn : n ≤ l.length) (hj : 0 < j) (hjn : j < n) (hl : lt (pl l j) (pl l (par j))) : Up lt (swp l (par j) j) n (par j) := by
  have hp := par_lt hj
  have hs := fun k => swp_at (l := l) (i := par j) (j := j) (by omega) (by omega) k
  refine ⟨fun k hk hkn hne => ?_, fun k hk hkn hkp hp0 => ?_⟩
  · rw [hs, hs]
    by_cases q : k = j
    · subst q
      rw [if_pos rfl, if_neg (by omega), if_pos rfl]
      exact o.asymm hl
    · rw [if_neg q, if_neg hne]
      by_cases r : par k = j
      · rw [if_pos r]
        exact h.2 k hk hkn r hj
      · rw [if_neg r]
        by_cases s : par k = par j
        · rw [if_pos s]
          have h1 := h.1 k hk hkn q
          rw [s] at h1
          exact o.le_trans (o.asymm hl) h1
        · rw [if_neg s]
          exact h.1 k hk hkn q
  · have hpp := par_lt hp0
    have h1 := h.1 (par j) hp0 (by omega) (by omega)
    rw [hs, hs, if_neg (show ¬ par (par j) = j by omega), if_neg (show ¬ par (par j) = par j by omega)]
    by_cases q : k = j
    · subst q; rw [if_pos rfl]; exact h1
    · rw [if_neg q]
      by_cases r : k = par j
      · rw [r] at hkp; omega
      · rw [if_neg r]
        have h2 := h.1 k hk hkn q
        rw [hkp] at h2
        exact o.le_trans h1 h2
theorem Up.fin {l : List α} {n j : Nat} (h : Up lt l n j) (hj : j = 0 ∨ ¬ lt (pl l j) (pl l (par j))) : Hp lt l n := by
  intro k hk hkn
  by_cases q : k = j
  · subst q
    rcases hj with r | r
    · omega
    · exact r
  · exact h.1 k hk hkn q
/-- j is the least of what hangs on i -/
def Least (lt : α → α → Prop) (l : List α) (n i j : Nat) : Prop := 0 < j ∧ j < n ∧ par j = i ∧ ∀ k, 0 < k → k < n → par k = i → ¬ lt (pl l k) (pl l j)
theorem D0.first (o : STO lt) {l : List α} {n i j : Nat} (h : D0 lt l n i) (hn : n ≤ l.length) (hj : Least lt l n i j) (hl : lt (pl l j) (pl l i)) : Dn lt (swp l i j) n j := by
  obtain ⟨hj0, hjn, hjp, hm⟩ := hj
  have hij : i < j := by have := par_lt hj0; omega
  have hs := fun k => swp_at (l := l) (i := i) (j := j) (by omega) (by omega) k
  refine ⟨fun k hk hkn hne => ?_, fun k hk hkn hkp _ => ?_⟩
  · rw [hs, hs]
    by_cases q : k = j
    · subst q
      rw [if_pos rfl, hjp, if_neg (by omega), if_pos rfl]
      exact o.asymm hl
    · rw [if_neg q]
      by_cases r : k = i
      · subst r
        rw [if_pos rfl, if_neg hne, if_neg (by have := par_lt hk; omega)]
        exact h.2 j hj0 hjn hjp hk
      · rw [if_neg r, if_neg hne]
        by_cases s : par k = i
        · rw [if_pos s]; exact hm k hk hkn s
        · rw [if_neg s]; exact h.1 k hk hkn r s
  · have hkj := par_lt hk
    rw [hs, hs, hjp, if_neg (show ¬ i = j by omega), if_pos rfl, if_neg (by omega), if_neg (by omega)]
    have := h.1 k hk hkn (by omega) (by omega)
    rw [hkp] at this
    exact this
theorem Dn.d0 {l : List α} {n i : Nat} (h : Dn lt l n i) : D0 lt l n i := ⟨fun k hk hkn _ h2 => h.1 k hk hkn h2, h.2⟩
theorem Dn.step (o : STO lt) {l : List α} {n i j : Nat} (h : Dn lt l n i) (hn : n ≤ l.length) (hj : Least lt l n i j) (hl : lt (pl l j) (pl l i)) : Dn lt (swp l i j) n j := h.d0.first o hn hj hl
theorem Dn.fin {l : List α} {n i : Nat} (h : Dn lt l n i) (hc : ∀ k, 0 < k → k < n → par k = i → ¬ lt (pl l k) (pl l i)) : Hp lt l n := by
  intro k hk hkn
  by_cases q : par k = i
  · rw [q]; exact hc k hk hkn q
  · exact h.1 k hk hkn q
theorem D0.fin {l : List α} {n i : Nat} (h : D0 lt l n i) (hc : ∀ k, 0 < k → k < n → par k = i → ¬ lt (pl l k) (pl l i)) : Up lt l n i := by
  refine ⟨fun k hk hkn hne => ?_, h.2⟩
  by_cases q : par k = i
  · rw [q]; exact hc k hk hkn q
  · exact h.1 k hk hkn hne q
/-- a heap with another entry at i -/
theorem Hp.d0 {l l' : List α} {n i : Nat} (o : STO lt) (h : Hp lt l n) (he : ∀ k, k ≠ i → pl l' k = pl l k) : D0 lt l' n i := by
  refine ⟨fun k hk hkn h1 h2 => ?_, fun k hk hkn h1 h2 => ?_⟩
  · rw [he k h1, he _ h2]; exact h k hk hkn
  · have hki := par_lt hk
    have hpi := par_lt h2
    rw [he k (by omega), he (par i) (by omega)]
    have a := h k hk hkn
    rw [h1] at a
    exact o.le_trans (h i h2 (by omega)) a
/-- the first is the least -/
theorem Hp.least (o : STO lt) {l : List α} {n : Nat} (h : Hp lt l n) : ∀ k, k < n → ¬ lt (pl l k) (pl l 0) := by
  intro k
  induction k using Nat.strongRecOn with
  | ind k ih =>
    intro hk
    by_cases q : k = 0
    · subst q; exact o.irr _
    · exact o.le_trans (ih (par k) (par_lt (by omega)) (by have := par_lt (i := k) (by omega); omega)) (h k (by omega) hk)
end
end Go.Proofs.YtminfpkigenahaaGreatDoor.HeapMath
end
section
namespace Go.Proofs.YtminfpkigenahaaGreatDoor.HeapMath
set_option linter.unusedVariables false
set_option linter.unusedSimpArgs false
section
variable {α : Type} [Inhabited α] {lt : α → α → Prop}
/-- the places that came, and those that may come next -/
structure Near (n : Nat) (done near : List Nat) : Prop where
  lt : ∀ p ∈ done ++ near, p < n
  nodup : (done ++ near).Nodup
  up : ∀ p ∈ done ++ near, 0 < p → par p ∈ done
  down : ∀ p ∈ done, ∀ c, c < n → 0 < c → par c = p → c ∈ done ++ near
  root : 0 < n → 0 ∈ done ++ near
theorem Near.start (n : Nat) : Near n [] (if 0 < n then [0] else []) := by
  by_cases h : 0 < n
  · rw [if_pos h]
    exact ⟨fun p hp => (by simp at hp; omega), by simp, fun p hp h0 => (by simp at hp; omega), fun p hp => (by cases hp), fun _ => (by simp)⟩
  · rw [if_neg h]
    exact ⟨fun p hp => (by simp at hp), by simp, fun p hp => (by simp at hp), fun p hp => (by cases hp), fun q => absurd q h⟩
theorem Near.reach (o : STO lt) {l : List α} {n : Nat} {done near : List Nat} (h : Near n done near) (hh : Hp lt l n) : ∀ p, p < n → p ∉ done → ∃ q ∈ near, ¬ lt (pl l p) (pl l q) := by
  intro p
  induction p using Nat.strongRecOn with
  | ind p ih =>
    intro hp hd
    by_cases hn : p ∈ near
    · exact ⟨p, hn, o.irr _⟩
    · have h0 : 0 < p := by
        rcases Nat.eq_zero_or_pos p with q | q
        · subst q
          rcases List.mem_append.1 (h.root hp) with r | r
          · exact absurd r hd
          · exact absurd r hn
        · exact q
      have hpd : par p ∉ done := fun r => by
        rcases List.mem_append.1 (h.down _ r p hp h0 rfl) with s | s
        · exact hd s
        · exact hn s
      obtain ⟨q, hq, hle⟩ := ih (par p) (par_lt h0) (by have := par_lt h0; omega) hpd
      exact ⟨q, hq, o.le_trans hle (hh p h0 hp)⟩
/-- what hangs on m -/
def kids (n m : Nat) : List Nat := (if 2 * m + 1 < n then [2 * m + 1] else []) ++ (if 2 * m + 2 < n then [2 * m + 2] else [])
theorem kids_mem {n m c : Nat} : c ∈ kids n m ↔ c < n ∧ 0 < c ∧ par c = m := by
  unfold kids
  constructor
  · intro h
    rcases List.mem_append.1 h with h | h
    · split at h
      · simp at h; subst h; exact ⟨by assumption, by omega, by unfold par; omega⟩
      · cases h
    · split at h
      · simp at h; subst h; exact ⟨by assumption, by omega, by unfold par; omega⟩
      · cases h
  · rintro ⟨h1, h2, h3⟩
    rcases (par_eq h2).1 h3 with rfl | rfl
    · exact List.mem_append_left _ (by rw [if_pos h1]; simp)
    · exact List.mem_append_right _ (by rw [if_pos h1]; simp)
theorem kids_nodup (n m : Nat) : (kids n m).Nodup := by
  unfold kids
  split <;> split <;> simp
theorem Near.step {n m : Nat} {done near near' : List Nat} (h : Near n done near) (hm : m ∈ near) (hp : near'.Perm (near.erase m ++ kids n m)) : Near n (done ++ [m]) near' := by
  have hnd := List.nodup_append.1 h.nodup
  have hmd : m ∉ done := fun q => hnd.2.2 m q m hm rfl
  have hmn := h.lt m (List.mem_append_right _ hm)
  have mem : ∀ p, p ∈ near' ↔ (p ∈ near ∧ p ≠ m) ∨ p ∈ kids n m := fun p => by
    rw [hp.mem_iff, List.mem_append, hnd.2.1.mem_erase_iff]
    constructor
    · rintro (⟨a, b⟩ | c)
      · exact .inl ⟨b, a⟩
      · exact .inr c
    · rintro (⟨a, b⟩ | c)
      · exact .inl ⟨b, a⟩
      · exact .inr c
  have kid_new : ∀ c ∈ kids n m, c ∉ done ∧ c ∉ near := fun c hc => by
    obtain ⟨c1, c2, c3⟩ := kids_mem.1 hc
    have this : c ∈ done ++ near → False := fun r => hmd (by have := h.up c r c2; rwa [c3] at this)
    exact ⟨fun r => this (List.mem_append_left _ r), fun r => this (List.mem_append_right _ r)⟩
  refine ⟨fun p hpm => ?_, ?_, fun p hpm h0 => ?_, fun p hpd c hc c0 hcp => ?_, fun h0 => ?_⟩
  · rcases List.mem_append.1 hpm with q | q
    · rcases List.mem_append.1 q with r | r
      · exact h.lt p (List.mem_append_left _ r)
      · simp at r; subst r; exact hmn
    · rcases (mem p).1 q with ⟨r, _⟩ | r
      · exact h.lt p (List.mem_append_right _ r)
      · exact (kids_mem.1 r).1
  · rw [List.nodup_append]
    refine ⟨?_, ?_, ?_⟩
    · rw [List.nodup_append]
      exact ⟨hnd.1, by simp, fun a ha b hb => by simp at hb; subst hb; rintro rfl; exact hmd ha⟩
    · rw [hp.nodup_iff, List.nodup_append]
      exact ⟨hnd.2.1.erase m, kids_nodup n m, fun a ha b hb => by rintro rfl; exact (kid_new a hb).2 (List.mem_of_mem_erase ha)⟩
    · intro a ha b hb
      rintro rfl
      rcases List.mem_append.1 ha with q | q
      · rcases (mem a).1 hb with ⟨r, _⟩ | r
        · exact hnd.2.2 a q a r rfl
        · exact (kid_new a r).1 q
      · simp at q; subst q
        rcases (mem a).1 hb with ⟨_, r⟩ | r
        · exact r rfl
        · have := kids_mem.1 r
          have := par_lt this.2.1
          omega
  · rcases List.mem_append.1 hpm with q | q
    · rcases List.mem_append.1 q with r | r
      · exact List.mem_append_left _ (h.up p (List.mem_append_left _ r) h0)
      · simp at r; subst r; exact List.mem_append_left _ (h.up p (List.mem_append_right _ hm) h0)
    · rcases (mem p).1 q with ⟨r, _⟩ | r
      · exact List.mem_append_left _ (h.up p (List.mem_append_right _ r) h0)
      · rw [(kids_mem.1 r).2.2]; simp
  · rcases List.mem_append.1 hpd with q | q
    · rcases List.mem_append.1 (h.down p q c hc c0 hcp) with r | r
      · exact List.mem_append_left _ (List.mem_append_left _ r)
      · by_cases s : c = m
        · subst s; exact List.mem_append_left _ (by simp)
        · exact List.mem_append_right _ ((mem c).2 (.inl ⟨r, s⟩))
    · simp at q; subst q
      exact List.mem_append_right _ ((mem c).2 (.inr (kids_mem.2 ⟨hc, c0, hcp⟩)))
  · rcases List.mem_append.1 (h.root h0) with r | r
    · exact List.mem_append_left _ (List.mem_append_left _ r)
    · by_cases s : 0 = m
      · rw [← s]; exact List.mem_append_left _ (by simp)
      · exact List.mem_append_right _ ((mem 0).2 (.inl ⟨r, s⟩))
/-- S is l in its order -/
structure Sorted (lt : α → α → Prop) (l S : List α) : Prop where
  perm : S.Perm l
  inc : S.Pairwise lt
theorem nodup_inj {β : Type} {l : List β} (h : l.Nodup) {i j : Nat} (hi : i < l.length) (hj : j < l.length) (e : l[i] = l[j]) : i = j := by
  have hp := List.pairwise_iff_getElem.1 h
  rcases Nat.lt_trichotomy i j with q | q | q
  · exact absurd e (hp i j hi hj q)
  · exact q
  · exact absurd e.symm (hp j i hj hi q)
theorem pl_inj {l : List α} (h : l.Nodup) {i j : Nat} (hi : i < l.length) (hj : j < l.length) (e : pl l i = pl l j) : i = j := by
  rw [pl_in hi, pl_in hj] at e
  exact nodup_inj h hi hj e
theorem mem_pl {l : List α} {a : α} (h : a ∈ l) : ∃ p, p < l.length ∧ pl l p = a := by
  obtain ⟨p, hp, e⟩ := List.getElem_of_mem h
  exact ⟨p, hp, by rw [pl_in hp, e]⟩
/-- the least of those that may come next is the next one -/
theorem next_is (o : STO lt) (tot : ∀ a b, a ≠ b → lt a b ∨ lt b a) {l S : List α} (hl : l.Nodup) (hS : Sorted lt l S) (hh : Hp lt l l.length) {done near : List Nat} (h : Near l.length done near) (hd : done.map (pl l) = S.take done.length) {m : Nat} (hm : m ∈ near) (hmin : ∀ q ∈ near, ¬ lt (pl l q) (pl l m)) :
    ∃ hk : done.length < S.length, S[done.length] = pl l m := by
  have hnd := List.nodup_append.1 h.nodup
  have hmd : m ∉ done := fun q => hnd.2.2 m q m hm rfl
  have hmn := h.lt m (List.mem_append_right _ hm)
  have hSn : S.Nodup := hS.perm.nodup_iff.2 hl
  have e1 : pl l m ∈ S := hS.perm.mem_iff.2 (by rw [pl_in hmn]; exact List.getElem_mem hmn)
  obtain ⟨j, hj, ej⟩ := List.getElem_of_mem e1
  have hjk : done.length ≤ j := by
    rcases Nat.lt_or_ge j done.length with q | q
    · exfalso
      have : S[j] ∈ done.map (pl l) := by
        rw [hd]
        exact List.mem_take_iff_getElem.2 ⟨j, by omega, rfl⟩
      obtain ⟨d, hd1, hd2⟩ := List.mem_map.1 this
      have := pl_inj hl (h.lt d (List.mem_append_left _ hd1)) hmn (by rw [hd2, ej])
      subst this
      exact hmd hd1
    · exact q
  refine ⟨by omega, ?_⟩
  obtain ⟨p, hp, ep⟩ := mem_pl (hS.perm.mem_iff.1 (List.getElem_mem (show done.length < S.length by omega)))
  have hpd : p ∉ done := fun q => by
    have : pl l p ∈ done.map (pl l) := List.mem_map_of_mem q
    rw [hd, ep] at this
    obtain ⟨i, hi, ei⟩ := List.mem_take_iff_getElem.1 this
    have := nodup_inj hSn (by omega) (by omega) ei
    omega
  obtain ⟨q, hq, hle⟩ := h.reach o hh p hp hpd
  have h1 : ¬ lt (S[done.length]) (pl l m) := by rw [← ep]; exact o.le_trans (hmin q hq) hle
  by_cases e : S[done.length] = pl l m
  · exact e
  · rcases tot _ _ e with r | r
    · exact absurd r h1
    · exfalso
      rw [← ej] at r
      rcases Nat.lt_or_ge done.length j with s | s
      · have := List.pairwise_iff_getElem.1 hS.inc done.length j (by omega) hj s
        exact o.asymm this r
      · have : j = done.length := by omega
        subst this
        exact o.irr _ r
end
end Go.Proofs.YtminfpkigenahaaGreatDoor.HeapMath
end
section
namespace Go.Proofs.YtminfpkigenahaaGreatDoor.Heap
open Go.RowKit
open Go.Proofs.YtminfpkigenahaaGreatDoor.HeapMath
set_option linter.unusedVariables false
set_option linter.unusedSimpArgs false
theorem hid_of {p : Prop} (h : p) : Hid p := h
/-- what Less and Swap of a thing do: R tells the row that a world holds, F what stays -/
structure Moves {α : Type} [Inhabited α] (less swap : Nat) (lt : α → α → Prop) [DecidableRel lt] (pv : Value) (R : World → List α → Prop) (F : World → World → Prop) : Prop where
  refl : ∀ w, F w w
  trans : ∀ a b c, F a b → F b c → F a c
  less : ∀ w l (i j : Nat), R w l → i < l.length → j < l.length → Calls Tryz.prog less #[pv, .int .i64 (i : Int), .int .i64 (j : Int)] w fun e w' => e = .returned (.bool (decide (lt (pl l i) (pl l j)))) ∧ R w' l ∧ F w w'
  swap : ∀ w l (i j : Nat), R w l → i < l.length → j < l.length → Calls Tryz.prog swap #[pv, .int .i64 (i : Int), .int .i64 (j : Int)] w fun e w' => e = .returned (.tuple #[]) ∧ R w' (swp l i j) ∧ F w w'
/-- the same entries, in the order of a heap as far as n -/
def Was {α : Type} [Inhabited α] (lt : α → α → Prop) (n : Nat) (l l' : List α) : Prop := Hp lt l' n ∧ l'.Perm l ∧ ∀ k, n ≤ k → pl l' k = pl l k
/-- what down leaves: b tells whether anything was moved -/
def Down {α : Type} [Inhabited α] (lt : α → α → Prop) (n i0 : Nat) (l l' : List α) (b : Bool) : Prop := l'.Perm l ∧ (∀ k, n ≤ k → pl l' k = pl l k) ∧ (b = true → Hp lt l' n) ∧ (b = false → l' = l ∧ Up lt l n i0)
def DownE {α : Type} [Inhabited α] (lt : α → α → Prop) (n i0 : Nat) (l : List α) (R : World → List α → Prop) (F : World → World → Prop) (w : World) (e : Ending) (w' : World) : Prop := ∃ (b : Bool) (l' : List α), e = .returned (.bool b) ∧ R w' l' ∧ Down lt n i0 l l' b ∧ F w w'
/-- down, on its way -/
structure Mid {α : Type} [Inhabited α] (lt : α → α → Prop) (n i0 i : Nat) (l m : List α) : Prop where
  perm : m.Perm l
  behind : ∀ k, n ≤ k → pl m k = pl l k
  way : (i = i0 ∧ m = l ∧ D0 lt l n i0) ∨ (i0 < i ∧ Dn lt m n i)
theorem Mid.start {α : Type} [Inhabited α] {lt : α → α → Prop} {n i0 : Nat} {l : List α} (h : D0 lt l n i0) : Mid lt n i0 i0 l l := ⟨List.Perm.refl _, fun _ _ => rfl, .inl ⟨rfl, rfl, h⟩⟩
theorem Mid.step {α : Type} [Inhabited α] [DecidableEq α] {lt : α → α → Prop} {n i0 i j : Nat} {l m : List α} (h : Mid lt n i0 i l m) (o : STO lt) (hn : n ≤ m.length) (hin : i < n) (hi0 : i0 ≤ i) (hj : Least lt m n i j) (hl : lt (pl m j) (pl m i)) : Mid lt n i0 j l (swp m i j) := by
  have hij : i < j := by have := par_lt hj.1; have := hj.2.2.1; omega
  have hjn := hj.2.1
  refine ⟨(swp_perm (by omega) (by omega)).trans h.perm, fun k hk => ?_, .inr ⟨by omega, ?_⟩⟩
  · rw [swp_at (by omega) (by omega), if_neg (by omega), if_neg (by omega)]; exact h.behind k hk
  · rcases h.way with ⟨e1, e2, hd⟩ | ⟨_, hd⟩
    · rw [e2] at hj hl hn ⊢
      rw [e1] at hj hl ⊢
      exact hd.first o hn hj hl
    · exact hd.step o hn hj hl
theorem Mid.fin {α : Type} [Inhabited α] {lt : α → α → Prop} {n i0 i : Nat} {l m : List α} (h : Mid lt n i0 i l m) (o : STO lt) (hc : ∀ k, 0 < k → k < n → par k = i → ¬ lt (pl m k) (pl m i)) : Down lt n i0 l m (decide (i0 < i)) := by
  refine ⟨h.perm, h.behind, fun hb => ?_, fun hb => ?_⟩
  · rcases h.way with ⟨e1, _, _⟩ | ⟨_, hd⟩
    · have := of_decide_eq_true hb; omega
    · exact hd.fin hc
  · rcases h.way with ⟨e1, e2, hd⟩ | ⟨q, _⟩
    · rw [e2, e1] at hc
      exact ⟨e2, hd.fin hc⟩
    · have := of_decide_eq_false hb; omega
end Go.Proofs.YtminfpkigenahaaGreatDoor.Heap
end
