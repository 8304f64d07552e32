/- container/heap's Push, Fix, Remove and Pop: the mathematics, and what a thing's own Len, Push and Pop do. Sets of texts as rising lists: what stands in them, and what several of them have together. -/
import Derived.Test.YtminfpkigenahaaGreatDoorSpaceMathM
import Derived.Lib.SlicesCompact
import Derived.Sort.KeysCollected
import Derived.Sort.Walk0
section
namespace Go.Proofs.YtminfpkigenahaaGreatDoor.Heap
open Go.RowKit
open Go.Proofs.YtminfpkigenahaaGreatDoor.HeapMath
set_option linter.unusedVariables false
set_option linter.unusedSimpArgs false
structure Thing {α : Type} [Inhabited α] (len less pop push swap : Nat) (lt : α → α → Prop) [DecidableRel lt] (pv : Value) (xv : α → Value) (ok : α → List α → Prop) (R : World → List α → Prop) (F : World → World → Prop) : Prop where
  moves : Moves less swap lt pv R F
  len : ∀ w l, R w l → Calls Tryz.prog len #[pv] w fun e w' => e = .returned (.int .i64 (l.length : Int)) ∧ R w' l ∧ F w w'
  push : ∀ w l a, R w l → ok a l → Calls Tryz.prog push #[pv, xv a] w fun e w' => e = .returned (.tuple #[]) ∧ R w' (l ++ [a]) ∧ F w w'
  pop : ∀ w l, R w l → 0 < l.length → Calls Tryz.prog pop #[pv] w fun e w' => e = .returned (xv (pl l (l.length - 1))) ∧ R w' (l.take (l.length - 1)) ∧ F w w'
section
variable {α : Type} [Inhabited α] {lt : α → α → Prop}
theorem pl_app (l : List α) (a : α) (k : Nat) : pl (l ++ [a]) k = if k = l.length then a else pl l k := by
  unfold pl
  by_cases h : k < l.length
  · rw [if_neg (by omega)]; simp only [List.getD]; rw [List.getElem?_append_left h]
  · by_cases q : k = l.length
    · subst q; simp [List.getD]
    · rw [if_neg q]
      simp only [List.getD]
      rw [List.getElem?_eq_none (by simp; omega), List.getElem?_eq_none (by omega)]
theorem up_new {l : List α} {a : α} (h : Hp lt l l.length) : Up lt (l ++ [a]) (l.length + 1) l.length := by
  refine ⟨fun k hk hkn hne => ?_, fun k hk hkn hkp _ => ?_⟩
  · have hp := par_lt hk
    rw [pl_app, pl_app, if_neg hne, if_neg (by omega)]
    exact h k hk (by omega)
  · have := par_lt hk; omega
theorem pl_take {l : List α} {n k : Nat} (h : k < n) : pl (l.take n) k = pl l k := by
  unfold pl; simp only [List.getD]; rw [List.getElem?_take_of_lt h]
theorem hp_take {l : List α} {n : Nat} (h : Hp lt l n) : Hp lt (l.take n) n := fun k hk hkn => by
  have := par_lt hk
  rw [pl_take hkn, pl_take (by omega)]
  exact h k hk hkn
theorem take_last {l : List α} (h : 0 < l.length) : l.take (l.length - 1) ++ [pl l (l.length - 1)] = l := by
  rw [pl_in (by omega)]
  have := List.take_append_getElem (l := l) (i := l.length - 1) (by omega)
  rw [this, show l.length - 1 + 1 = l.length by omega, List.take_length]
/-- what is left when the last is taken away -/
theorem left_perm {l l' : List α} {a : α} (h0 : 0 < l.length) (hp : l'.Perm l) (ha : pl l' (l.length - 1) = a) : (l'.take (l'.length - 1) ++ [a]).Perm l := by
  have e : l'.length = l.length := hp.length_eq
  have := take_last (l := l') (by omega)
  rw [e] at this ⊢
  rw [ha] at this
  rw [this]
  exact hp
/-- the last is brought to i -/
theorem brought (o : STO lt) {l : List α} {i : Nat} (h : Hp lt l l.length) (hi : i < l.length - 1) : D0 lt (swp l i (l.length - 1)) (l.length - 1) i := by
  refine ⟨fun k hk hkn h1 h2 => ?_, fun k hk hkn h1 h2 => ?_⟩
  · have := par_lt hk
    rw [swp_at (by omega) (by omega), swp_at (by omega) (by omega), if_neg (by omega), if_neg h1, if_neg (by omega), if_neg h2]
    exact h k hk (by omega)
  · have h3 := par_lt hk
    have h4 := par_lt h2
    rw [swp_at (by omega) (by omega), swp_at (by omega) (by omega), if_neg (by omega), if_neg (by omega), if_neg (by omega), if_neg (by omega)]
    have a := h k hk (by omega)
    rw [h1] at a
    exact o.le_trans (h i h2 (by omega)) a
end
end Go.Proofs.YtminfpkigenahaaGreatDoor.Heap
end
section
namespace Go.Proofs.YtminfpkigenahaaGreatDoor.SetMath
open Go.Sort
set_option linter.unusedVariables false
abbrev Bs := List UInt8
abbrev leS : Bs → Bs → Bool := fun x y => decide (x ≤ y)
def Ris (l : List Bs) : Prop := l.Pairwise (· < ·)
theorem lt_tot (a b : Bs) : a < b ∨ a = b ∨ b < a := by
  rcases Decidable.em (a < b) with q | q
  · exact .inl q
  · rcases Decidable.em (b < a) with r | r
    · exact .inr (.inr r)
    · exact .inr (.inl (List.le_antisymm r q))
theorem lt_ne {a b : Bs} (h : a < b) : a ≠ b := fun e => List.lt_irrefl b (e ▸ h)
theorem lt_not {a b : Bs} (h : a < b) : ¬ b < a := fun h2 => List.lt_irrefl a (List.lt_trans h h2)
theorem not_lt_le {a b : Bs} (h : ¬ a < b) : b ≤ a := h
theorem lt_of_le_ne {a b : Bs} (h : a ≤ b) (n : a ≠ b) : a < b := by
  rcases lt_tot a b with q | q | q
  · exact q
  · exact absurd q n
  · exact absurd q h
theorem le_of_lt {a b : Bs} (h : a < b) : a ≤ b := lt_not h
theorem lt_of_lt_le {a b c : Bs} (h : a < b) (k : b ≤ c) : a < c := by
  rcases lt_tot b c with q | q | q
  · exact List.lt_trans h q
  · rw [← q]; exact h
  · exact absurd q k
theorem lt_of_le_lt {a b c : Bs} (h : a ≤ b) (k : b < c) : a < c := by
  rcases lt_tot a b with q | q | q
  · exact List.lt_trans q k
  · rw [q]; exact k
  · exact absurd q h
theorem Ris.tail {a : Bs} {l : List Bs} (h : Ris (a :: l)) : Ris l := (List.pairwise_cons.1 h).2
theorem Ris.head {a : Bs} {l : List Bs} (h : Ris (a :: l)) : ∀ p ∈ l, a < p := (List.pairwise_cons.1 h).1
theorem Ris.nil : Ris [] := List.Pairwise.nil
theorem Ris.filter {l : List Bs} (h : Ris l) (p : Bs → Bool) : Ris (l.filter p) := List.Pairwise.sublist List.filter_sublist h
theorem Ris.sub {l m : List Bs} (h : Ris l) (s : m.Sublist l) : Ris m := List.Pairwise.sublist s h
theorem Ris.nodup {l : List Bs} (h : Ris l) : l.Nodup := h.imp fun h => lt_ne h
theorem ris_ext : ∀ {a b : List Bs}, Ris a → Ris b → (∀ x, x ∈ a ↔ x ∈ b) → a = b
  | [], [], _, _, _ => rfl
  | [], y :: s, _, _, h => absurd ((h y).2 List.mem_cons_self) (by simp)
  | x :: r, [], _, _, h => absurd ((h x).1 List.mem_cons_self) (by simp)
  | x :: r, y :: s, ha, hb, h => by
    have e : x = y := by
      rcases List.mem_cons.1 ((h x).1 List.mem_cons_self) with q | q
      · exact q
      · rcases List.mem_cons.1 ((h y).2 List.mem_cons_self) with p | p
        · exact p.symm
        · exact absurd (hb.head x q) (lt_not (ha.head y p))
    subst e
    rw [ris_ext ha.tail hb.tail fun z => ?_]
    constructor
    · intro hz
      rcases List.mem_cons.1 ((h z).1 (List.mem_cons_of_mem _ hz)) with q | q
      · exact absurd q.symm (lt_ne (ha.head z hz))
      · exact q
    · intro hz
      rcases List.mem_cons.1 ((h z).2 (List.mem_cons_of_mem _ hz)) with q | q
      · exact absurd q.symm (lt_ne (hb.head z hz))
      · exact q
def S (l : List Bs) : List Bs := Lib.compact (l.mergeSort leS)
theorem comp_inv (d : Array Bs) (hd : ∀ i j, i ≤ j → j < d.size → d[i]! ≤ d[j]!) : ∀ m, m ≤ d.size → Ris (Lib.compactUpTo d m) ∧ (∀ x ∈ Lib.compactUpTo d m, ∃ j, j < m ∧ x = d[j]!) ∧ ∀ j, j < m → d[j]! ∈ Lib.compactUpTo d m
  | 0, _ => ⟨List.Pairwise.nil, fun x hx => by simp [Lib.compactUpTo] at hx, fun j hj => by omega⟩
  | m + 1, hm => by
    obtain ⟨h1, h2, h3⟩ := comp_inv d hd m (by omega)
    rw [Lib.compactUpTo_succ]
    by_cases hk : Lib.keeps d m = true
    · rw [if_pos hk]
      refine ⟨List.pairwise_append.2 ⟨h1, List.pairwise_singleton _ _, fun x hx y hy => ?_⟩, fun x hx => ?_, fun j hj => ?_⟩
      · obtain rfl := List.mem_singleton.1 hy
        obtain ⟨j, hj, rfl⟩ := h2 x hx
        have h4 : d[j]! ≤ d[m - 1]! := hd j (m - 1) (by omega) (by omega)
        have h5 : d[m - 1]! ≤ d[m]! := hd (m - 1) m (by omega) (by omega)
        have h6 : d[m]! ≠ d[m - 1]! := by
          unfold Lib.keeps at hk
          rcases of_decide_eq_true hk with q | q
          · omega
          · exact q
        exact lt_of_le_lt h4 (lt_of_le_ne h5 h6.symm)
      · rcases List.mem_append.1 hx with q | q
        · obtain ⟨j, hj, e⟩ := h2 x q
          exact ⟨j, by omega, e⟩
        · exact ⟨m, by omega, List.mem_singleton.1 q⟩
      · by_cases q : j = m
        · subst q; exact List.mem_append_right _ (List.mem_singleton.2 rfl)
        · exact List.mem_append_left _ (h3 j (by omega))
    · rw [if_neg hk, List.append_nil]
      refine ⟨h1, fun x hx => ?_, fun j hj => ?_⟩
      · obtain ⟨j, hj, e⟩ := h2 x hx
        exact ⟨j, by omega, e⟩
      · by_cases q : j = m
        · subst q
          have h6 : j ≠ 0 ∧ d[j]! = d[j - 1]! := by
            unfold Lib.keeps at hk
            rw [decide_eq_true_eq] at hk
            rcases Decidable.em (j = 0) with q | q
            · exact absurd (Or.inl q) hk
            · exact ⟨q, Decidable.byContradiction fun e => hk (Or.inr e)⟩
          rw [h6.2]
          exact h3 (j - 1) (by omega)
        · exact h3 j (by omega)
theorem sorted_ms (l : List Bs) : (l.mergeSort leS).Pairwise (fun a b => a ≤ b) := by
  have := List.pairwise_mergeSort (le := leS) (fun a b c h1 h2 => by simp only [leS, decide_eq_true_eq] at *; exact List.le_trans h1 h2) (fun a b => by simp only [leS, Bool.or_eq_true, decide_eq_true_eq]; exact List.le_total a b) l
  exact this.imp fun {a b} hab => by simpa [leS] using hab
theorem S_props (l : List Bs) : Ris (S l) ∧ ∀ x, x ∈ S l ↔ x ∈ l := by
  have hs := sorted_ms l
  have hd : ∀ i j, i ≤ j → j < (l.mergeSort leS).toArray.size → (l.mergeSort leS).toArray[i]! ≤ (l.mergeSort leS).toArray[j]! := by
    intro i j hij hj
    have hj' : j < (l.mergeSort leS).length := by simpa using hj
    have hi' : i < (l.mergeSort leS).length := by omega
    rw [getElem!_pos _ i (by simpa using hi'), getElem!_pos _ j (by simpa using hj')]
    simp only [List.getElem_toArray]
    rcases Nat.lt_or_eq_of_le hij with q | q
    · exact List.pairwise_iff_getElem.1 hs i j hi' hj' q
    · subst q; exact List.le_refl _
  obtain ⟨h1, h2, h3⟩ := comp_inv (l.mergeSort leS).toArray hd (l.mergeSort leS).length (by simp)
  refine ⟨h1, fun x => ⟨fun hx => ?_, fun hx => ?_⟩⟩
  · obtain ⟨j, hj, rfl⟩ := h2 x hx
    rw [getElem!_pos _ j (by simpa using hj)]
    simp only [List.getElem_toArray]
    exact List.mem_mergeSort.1 (List.getElem_mem hj)
  · obtain ⟨j, hj, rfl⟩ := List.getElem_of_mem (List.mem_mergeSort.2 hx : x ∈ l.mergeSort leS)
    have := h3 j hj
    rw [getElem!_pos _ j (by simpa using hj)] at this
    simp only [List.getElem_toArray] at this
    exact this
theorem ris_S (l : List Bs) : Ris (S l) := (S_props l).1
theorem mem_S {l : List Bs} {x : Bs} : x ∈ S l ↔ x ∈ l := (S_props l).2 x
theorem comp_len (zs : List Bs) : (Lib.compact zs).length ≤ zs.length := by
  unfold Lib.compact Lib.compactUpTo
  rw [List.length_map]
  exact Nat.le_trans (List.length_filter_le _ _) (by simp)
theorem len_S (l : List Bs) : (S l).length ≤ l.length := by
  have := comp_len (l.mergeSort leS)
  rw [List.length_mergeSort] at this
  exact this
theorem S_nil : S [] = [] := by
  have := len_S []
  exact List.length_eq_zero_iff.1 (by simpa using this)
theorem S_ext {a b : List Bs} (h : ∀ x, x ∈ a ↔ x ∈ b) : S a = S b := ris_ext (ris_S a) (ris_S b) fun x => by rw [mem_S, mem_S]; exact h x
theorem S_is {a b : List Bs} (hb : Ris b) (h : ∀ x, x ∈ b ↔ x ∈ a) : S a = b := ris_ext (ris_S a) hb fun x => by rw [mem_S]; exact (h x).symm
theorem S_self {l : List Bs} (h : Ris l) : S l = l := S_is h fun _ => Iff.rfl
/-- two rising lists, gone along at once -/
def mrg (f s b : Bool) : List Bs → List Bs → List Bs
  | [], ys => if s then ys else []
  | x :: xs, [] => if f then x :: xs else []
  | x :: xs, y :: ys =>
    if x < y then (if f then [x] else []) ++ mrg f s b xs (y :: ys)
    else if y < x then (if s then [y] else []) ++ mrg f s b (x :: xs) ys
    else (if b then [x] else []) ++ mrg f s b xs ys
  termination_by xs ys => xs.length + ys.length
theorem mrg_end (f s b : Bool) (xs ys : List Bs) (h : xs = [] ∨ ys = []) : mrg f s b xs ys = (if f then xs else []) ++ (if s then ys else []) := by
  rcases h with rfl | rfl
  · unfold mrg; cases f <;> simp
  · cases xs with
    | nil => unfold mrg; cases f <;> cases s <;> simp
    | cons x xs => unfold mrg; cases s <;> simp
theorem mrg_lt (f s b : Bool) {x y : Bs} (xs ys : List Bs) (h : x < y) : mrg f s b (x :: xs) (y :: ys) = (if f then [x] else []) ++ mrg f s b xs (y :: ys) := by
  rw [mrg, if_pos h]
theorem mrg_gt (f s b : Bool) {x y : Bs} (xs ys : List Bs) (h : y < x) : mrg f s b (x :: xs) (y :: ys) = (if s then [y] else []) ++ mrg f s b (x :: xs) ys := by
  rw [mrg, if_neg (lt_not h), if_pos h]
theorem mrg_eq (f s b : Bool) (x : Bs) (xs ys : List Bs) : mrg f s b (x :: xs) (x :: ys) = (if b then [x] else []) ++ mrg f s b xs ys := by
  rw [mrg, if_neg (List.lt_irrefl x), if_neg (List.lt_irrefl x)]
theorem mrg_ind {P : List Bs → List Bs → Prop} (h1 : ∀ ys, P [] ys) (h2 : ∀ x xs, P (x :: xs) []) (h3 : ∀ x xs y ys, x < y → P xs (y :: ys) → P (x :: xs) (y :: ys)) (h4 : ∀ x xs y ys, y < x → P (x :: xs) ys → P (x :: xs) (y :: ys)) (h5 : ∀ x xs ys, P xs ys → P (x :: xs) (x :: ys)) :
    ∀ (n : Nat) (xs ys : List Bs), xs.length + ys.length ≤ n → P xs ys
  | _, [], ys, _ => h1 ys
  | _, x :: xs, [], _ => h2 x xs
  | 0, x :: xs, y :: ys, h => by simp at h
  | n + 1, x :: xs, y :: ys, h => by
    rcases lt_tot x y with q | q | q
    · exact h3 x xs y ys q (mrg_ind h1 h2 h3 h4 h5 n xs (y :: ys) (by simp at h ⊢; omega))
    · subst q; exact h5 x xs ys (mrg_ind h1 h2 h3 h4 h5 n xs ys (by simp at h ⊢; omega))
    · exact h4 x xs y ys q (mrg_ind h1 h2 h3 h4 h5 n (x :: xs) ys (by simp at h ⊢; omega))
theorem mrg_len (f s b : Bool) (xs ys : List Bs) : (mrg f s b xs ys).length ≤ xs.length + ys.length := by
  refine mrg_ind (P := fun xs ys => (mrg f s b xs ys).length ≤ xs.length + ys.length) ?_ ?_ ?_ ?_ ?_ _ xs ys (Nat.le_refl _)
  · intro ys; rw [mrg_end _ _ _ _ _ (.inl rfl)]; cases f <;> cases s <;> simp
  · intro x xs; rw [mrg_end _ _ _ _ _ (.inr rfl)]; cases f <;> cases s <;> simp
  · intro x xs y ys h ih; rw [mrg_lt _ _ _ _ _ h]; cases f <;> simp at ih ⊢ <;> omega
  · intro x xs y ys h ih; rw [mrg_gt _ _ _ _ _ h]; cases s <;> simp at ih ⊢ <;> omega
  · intro x xs ys ih; rw [mrg_eq]; cases b <;> simp at ih ⊢ <;> omega
theorem mrg_props (f s b : Bool) (xs ys : List Bs) (hx : Ris xs) (hy : Ris ys) : Ris (mrg f s b xs ys) ∧ ∀ z, z ∈ mrg f s b xs ys ↔ (f = true ∧ z ∈ xs ∧ z ∉ ys) ∨ (s = true ∧ z ∈ ys ∧ z ∉ xs) ∨ (b = true ∧ z ∈ xs ∧ z ∈ ys) := by
  revert hx hy
  refine mrg_ind (P := fun xs ys => Ris xs → Ris ys → Ris (mrg f s b xs ys) ∧ ∀ z, z ∈ mrg f s b xs ys ↔ (f = true ∧ z ∈ xs ∧ z ∉ ys) ∨ (s = true ∧ z ∈ ys ∧ z ∉ xs) ∨ (b = true ∧ z ∈ xs ∧ z ∈ ys)) ?_ ?_ ?_ ?_ ?_ _ xs ys (Nat.le_refl _)
  · intro ys hx hy; rw [mrg_end _ _ _ _ _ (.inl rfl)]; cases f <;> cases s <;> simp <;> first | exact hy | exact Ris.nil
  · intro x xs hx hy; rw [mrg_end _ _ _ _ _ (.inr rfl)]; cases f <;> cases s <;> simp <;> first | exact hx | exact Ris.nil
  · intro x xs y ys h ih hx hy
    obtain ⟨r, m⟩ := ih hx.tail hy
    rw [mrg_lt _ _ _ _ _ h]
    have hxy : x ∉ y :: ys := fun q => by
      rcases List.mem_cons.1 q with q | q
      · exact lt_ne h q
      · exact lt_not h (hy.head x q)
    have hxx : x ∉ xs := fun q => lt_ne (hx.head x q) rfl
    constructor
    · refine List.pairwise_append.2 ⟨by cases f <;> simp, r, fun u hu v hv => ?_⟩
      have eu : u = x := by cases f <;> simp at hu; exact hu
      subst eu
      have hv' : v ∈ xs ∨ v ∈ y :: ys := by
        rcases (m v).1 hv with q | q | q
        · exact .inl q.2.1
        · exact .inr q.2.1
        · exact .inl q.2.1
      rcases hv' with q | q
      · exact hx.head v q
      · rcases List.mem_cons.1 q with q | q
        · rw [q]; exact h
        · exact List.lt_trans h (hy.head v q)
    · intro z
      rw [List.mem_append, m z]
      by_cases e : z = x
      · subst e
        have h1 : z ≠ y := lt_ne h
        have h2 : z ∉ ys := fun q => hxy (List.mem_cons_of_mem _ q)
        cases f <;> simp [hxx, h1, h2]
      · cases f <;> simp [e]
  · intro x xs y ys h ih hx hy
    obtain ⟨r, m⟩ := ih hx hy.tail
    rw [mrg_gt _ _ _ _ _ h]
    have hyx : y ∉ x :: xs := fun q => by
      rcases List.mem_cons.1 q with q | q
      · exact lt_ne h q
      · exact lt_not h (hx.head y q)
    have hyy : y ∉ ys := fun q => lt_ne (hy.head y q) rfl
    constructor
    · refine List.pairwise_append.2 ⟨by cases s <;> simp, r, fun u hu v hv => ?_⟩
      have eu : u = y := by cases s <;> simp at hu; exact hu
      subst eu
      have hv' : v ∈ x :: xs ∨ v ∈ ys := by
        rcases (m v).1 hv with q | q | q
        · exact .inl q.2.1
        · exact .inr q.2.1
        · exact .inl q.2.1
      rcases hv' with q | q
      · rcases List.mem_cons.1 q with q | q
        · rw [q]; exact h
        · exact List.lt_trans h (hx.head v q)
      · exact hy.head v q
    · intro z
      rw [List.mem_append, m z]
      by_cases e : z = y
      · subst e
        have h1 : z ≠ x := lt_ne h
        have h2 : z ∉ xs := fun q => hyx (List.mem_cons_of_mem _ q)
        cases s <;> simp [hyy, h1, h2]
      · cases s <;> simp [e]
  · intro x xs ys ih hx hy
    obtain ⟨r, m⟩ := ih hx.tail hy.tail
    rw [mrg_eq]
    have hxx : x ∉ xs := fun q => lt_ne (hx.head x q) rfl
    have hyy : x ∉ ys := fun q => lt_ne (hy.head x q) rfl
    constructor
    · refine List.pairwise_append.2 ⟨by cases b <;> simp, r, fun u hu v hv => ?_⟩
      have eu : u = x := by cases b <;> simp at hu; exact hu
      subst eu
      rcases (m v).1 hv with q | q | q
      · exact hx.head v q.2.1
      · exact hy.head v q.2.1
      · exact hx.head v q.2.1
    · intro z
      rw [List.mem_append, m z]
      by_cases e : z = x
      · subst e
        cases b <;> simp [hxx, hyy]
      · cases b <;> simp [e]
/-- what l has and not m -/
def dif (l m : List Bs) : List Bs := (S l).filter fun x => decide (x ∉ m)
def int (l m : List Bs) : List Bs := (S l).filter fun x => decide (x ∈ m)
theorem add_is (l m : List Bs) : mrg true true true (S l) (S m) = S (l ++ m) := by
  obtain ⟨r, h⟩ := mrg_props true true true (S l) (S m) (ris_S l) (ris_S m)
  refine (S_is r fun x => ?_).symm
  rw [h x, List.mem_append, mem_S, mem_S]
  by_cases h1 : x ∈ l <;> by_cases h2 : x ∈ m <;> simp [h1, h2]
theorem rem_is (l m : List Bs) : mrg true false false (S l) (S m) = dif l m := by
  obtain ⟨r, h⟩ := mrg_props true false false (S l) (S m) (ris_S l) (ris_S m)
  unfold dif
  refine ris_ext r ((ris_S l).filter _) fun x => ?_
  rw [h x, List.mem_filter, mem_S, mem_S]
  simp
theorem int_is (l m : List Bs) (hl : Ris l) : mrg false false true l (S m) = l.filter fun x => decide (x ∈ m) := by
  obtain ⟨r, h⟩ := mrg_props false false true l (S m) hl (ris_S m)
  refine ris_ext r (hl.filter _) fun x => ?_
  rw [h x, List.mem_filter, mem_S]
  simp
/-- several lists -/
def uni (ls : List (List Bs)) : List Bs := S ls.flatten
def inter : List (List Bs) → List Bs
  | [] => []
  | l :: ls => (S l).filter fun x => ls.all fun m => decide (x ∈ m)
def diff : List (List Bs) → List Bs
  | [] => []
  | l :: ls => (S l).filter fun x => ls.all fun m => decide (x ∉ m)
theorem uni_nil : uni [] = [] := by unfold uni; exact S_nil
theorem uni_one (l : List Bs) : uni [l] = S l := by unfold uni; simp
theorem uni_app (a b : List (List Bs)) : mrg true true true (uni a) (uni b) = uni (a ++ b) := by
  unfold uni
  rw [add_is, List.flatten_append]
theorem ris_uni (ls : List (List Bs)) : Ris (uni ls) := ris_S _
theorem mem_uni {ls : List (List Bs)} {x : Bs} : x ∈ uni ls ↔ ∃ l ∈ ls, x ∈ l := by unfold uni; rw [mem_S, List.mem_flatten]
theorem ris_inter (ls : List (List Bs)) : Ris (inter ls) := by
  cases ls with
  | nil => exact Ris.nil
  | cons l ls => exact (ris_S l).filter _
theorem mem_inter {l : List Bs} {ls : List (List Bs)} {x : Bs} : x ∈ inter (l :: ls) ↔ x ∈ l ∧ ∀ m ∈ ls, x ∈ m := by
  unfold inter
  rw [List.mem_filter, mem_S, List.all_eq_true]
  simp
theorem inter_snoc (l : List Bs) (ls : List (List Bs)) (m : List Bs) : (inter (l :: ls)).filter (fun x => decide (x ∈ m)) = inter (l :: (ls ++ [m])) := by
  refine ris_ext ((ris_inter _).filter _) (ris_inter _) fun x => ?_
  rw [List.mem_filter, mem_inter, mem_inter]
  simp only [List.mem_append, List.mem_singleton, decide_eq_true_eq]
  constructor
  · rintro ⟨⟨h1, h2⟩, h3⟩
    refine ⟨h1, fun k hk => ?_⟩
    rcases hk with hk | rfl
    · exact h2 k hk
    · exact h3
  · rintro ⟨h1, h2⟩
    exact ⟨⟨h1, fun k hk => h2 k (.inl hk)⟩, h2 m (.inr rfl)⟩
theorem inter_one (l : List Bs) : inter [l] = S l := by unfold inter; simp
theorem mem_diff {l : List Bs} {ls : List (List Bs)} {x : Bs} : x ∈ diff (l :: ls) ↔ x ∈ l ∧ ∀ m ∈ ls, x ∉ m := by
  unfold diff
  rw [List.mem_filter, mem_S, List.all_eq_true]
  simp
theorem ris_diff (ls : List (List Bs)) : Ris (diff ls) := by
  cases ls with
  | nil => exact Ris.nil
  | cons l ls => exact (ris_S l).filter _
theorem diff_is (l : List Bs) (ls : List (List Bs)) : mrg true false false (S l) (uni ls) = diff (l :: ls) := by
  obtain ⟨r, h⟩ := mrg_props true false false (S l) (uni ls) (ris_S l) (ris_uni ls)
  refine ris_ext r (ris_diff _) fun x => ?_
  rw [h x, mem_diff, mem_uni, mem_S]
  simp
theorem len_uni (ls : List (List Bs)) : (uni ls).length ≤ (ls.map (·.length)).sum := by
  unfold uni
  have := len_S ls.flatten
  rw [List.length_flatten] at this
  exact this
theorem len_inter (l : List Bs) (ls : List (List Bs)) : (inter (l :: ls)).length ≤ l.length := by
  unfold inter
  exact Nat.le_trans (List.length_filter_le _ _) (len_S l)
theorem len_diff (l : List Bs) (ls : List (List Bs)) : (diff (l :: ls)).length ≤ l.length := by
  unfold diff
  exact Nat.le_trans (List.length_filter_le _ _) (len_S l)
/-- behind a text -/
def beh (l : List Bs) (m : Bs) : List Bs := (S l).filter fun x => decide (m < x)
def aft (l : List Bs) (m : Bs) (k : Nat) : List Bs := (beh l m).take k
/-- where a text stands, or would stand -/
def pos (l : List Bs) (m : Bs) : Nat := (l.takeWhile fun x => decide (x < m)).length
theorem pos_le (l : List Bs) (m : Bs) : pos l m ≤ l.length := by unfold pos; exact (List.takeWhile_sublist _).length_le
theorem pos_below : ∀ {l : List Bs} {m : Bs} {j : Nat} (h : j < l.length), j < pos l m → l[j] < m
  | a :: r, m, j, h, q => by
    unfold pos at q
    rw [List.takeWhile_cons] at q
    by_cases ha : a < m
    · rw [if_pos (decide_eq_true ha)] at q
      cases j with
      | zero => exact ha
      | succ j => exact pos_below (l := r) (by simpa using h) (by unfold pos; simpa using q)
    · rw [if_neg (by simpa using ha)] at q
      simp at q
theorem pos_above : ∀ {l : List Bs} {m : Bs} {j : Nat} (hr : Ris l) (h : j < l.length), pos l m ≤ j → ¬ l[j] < m
  | a :: r, m, j, hr, h, q => by
    by_cases ha : a < m
    · have e : pos (a :: r) m = pos r m + 1 := by unfold pos; rw [List.takeWhile_cons, if_pos (decide_eq_true ha)]; rfl
      rw [e] at q
      cases j with
      | zero => omega
      | succ j => exact pos_above (l := r) hr.tail (by simpa using h) (by omega)
    · intro k
      cases j with
      | zero => exact ha k
      | succ j =>
        have h2 : j < r.length := by simpa using h
        exact ha (List.lt_trans (hr.head _ (List.getElem_mem h2)) k)
theorem ris_at {l : List Bs} (hr : Ris l) {i j : Nat} (hij : i < j) (hj : j < l.length) : l[i] < l[j] := List.pairwise_iff_getElem.1 hr i j (by omega) hj hij
theorem drop_beh {l : List Bs} {m : Bs} (hr : Ris l) : l.filter (fun x => decide (m < x)) = l.drop (if pos l m < l.length ∧ l[pos l m]? = some m then pos l m + 1 else pos l m) := by
  induction l with
  | nil => simp
  | cons a r ih =>
    by_cases ha : a < m
    · have e : pos (a :: r) m = pos r m + 1 := by unfold pos; rw [List.takeWhile_cons, if_pos (decide_eq_true ha)]; rfl
      rw [List.filter_cons, if_neg (by simpa using lt_not ha), ih hr.tail, e]
      by_cases q : pos r m < r.length ∧ r[pos r m]? = some m
      · rw [if_pos q, if_pos ⟨by simpa using q.1, by simpa using q.2⟩]; rfl
      · rw [if_neg q, if_neg (fun k => q ⟨by simpa using k.1, by simpa using k.2⟩)]; rfl
    · have e : pos (a :: r) m = 0 := by unfold pos; rw [List.takeWhile_cons, if_neg (by simpa using ha)]; rfl
      rw [e]
      by_cases q : a = m
      · subst q
        rw [if_pos ⟨by simp, by simp⟩, List.filter_cons, if_neg (by simp)]
        simp only [Nat.zero_add, List.drop_one, List.tail_cons]
        exact List.filter_eq_self.2 fun x hx => decide_eq_true (hr.head x hx)
      · rw [if_neg (fun k => q (by simpa using k.2)), List.drop_zero]
        have hm : m < a := by
          rcases lt_tot a m with p | p | p
          · exact absurd p ha
          · exact absurd p q
          · exact p
        exact List.filter_eq_self.2 fun x hx => by
          rcases List.mem_cons.1 hx with rfl | hx
          · exact decide_eq_true hm
          · exact decide_eq_true (List.lt_trans hm (hr.head x hx))
theorem len_aft (l : List Bs) (m : Bs) (k : Nat) : (aft l m k).length ≤ l.length := by
  unfold aft beh
  rw [List.length_take]
  exact Nat.le_trans (Nat.min_le_right _ _) (Nat.le_trans (List.length_filter_le _ _) (len_S l))
instance decRis (l : List Bs) : Decidable (Ris l) := inferInstanceAs (Decidable (l.Pairwise (· < ·)))
end Go.Proofs.YtminfpkigenahaaGreatDoor.SetMath
end
