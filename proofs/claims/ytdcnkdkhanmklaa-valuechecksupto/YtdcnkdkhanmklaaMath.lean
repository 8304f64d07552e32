/- Sets of texts as rising lists: what stands in them, and what several of them have together. Bytes and the numbers whose bytes they are, the lowest first: plain lists and numbers; no program is met here. A number's bytes, the lowest first, as a list and as a row of cells: no program is met here. Values, whether they may be, their bytes, and what is read of bytes: no program is met here. A reader that goes along bytes, and what it has failed at: against the reading of ValueMath. -/
import Derived.Lib.SlicesCompact
import Derived.Sort.KeysCollected
import Derived.Sort.Walk0
import Derived.RowKit
import Derived.Laws.BitsAllLaws
import Derived.Lib.SlBytesRow
section
namespace Go.Proofs.Ytdcnkdkhanmklaa.SetMath
open Go.Sort
set_option linter.unusedVariables false
set_option linter.unusedSimpArgs false
abbrev Bs := List UInt8
abbrev leS : Bs → Bs → Bool := fun x y => decide (x ≤ y)
def Ris (l : List Bs) : Prop := l.Pairwise (· < ·)
theorem lt_tot (a b : Bs) : a < b ∨ a = b ∨ b < a := by
  rcases Decidable.em (a < b) with q | q
  · exact .inl q
  · rcases Decidable.em (b < a) with r | r
    · exact .inr (.inr r)
    · exact .inr (.inl (List.le_antisymm r q))
theorem lt_ne {a b : Bs} (h : a < b) : a ≠ b := fun e => List.lt_irrefl b (e ▸ h)
theorem lt_not {a b : Bs} (h : a < b) : ¬ b < a := fun h2 => List.lt_irrefl a (List.lt_trans h h2)
theorem not_lt_le {a b : Bs} (h : ¬ a < b) : b ≤ a := h
theorem lt_of_le_ne {a b : Bs} (h : a ≤ b) (n : a ≠ b) : a < b := by
  rcases lt_tot a b with q | q | q
  · exact q
  · exact absurd q n
  · exact absurd q h
theorem le_of_lt {a b : Bs} (h : a < b) : a ≤ b := lt_not h
theorem lt_of_lt_le {a b c : Bs} (h : a < b) (k : b ≤ c) : a < c := by
  rcases lt_tot b c with q | q | q
  · exact List.lt_trans h q
  · rw [← q]; exact h
  · exact absurd q k
theorem lt_of_le_lt {a b c : Bs} (h : a ≤ b) (k : b < c) : a < c := by
  rcases lt_tot a b with q | q | q
  · exact List.lt_trans q k
  · rw [q]; exact k
  · exact absurd q h
theorem Ris.tail {a : Bs} {l : List Bs} (h : Ris (a :: l)) : Ris l := (List.pairwise_cons.1 h).2
theorem Ris.head {a : Bs} {l : List Bs} (h : Ris (a :: l)) : ∀ p ∈ l, a < p := (List.pairwise_cons.1 h).1
theorem Ris.nil : Ris [] := List.Pairwise.nil
theorem Ris.filter {l : List Bs} (h : Ris l) (p : Bs → Bool) : Ris (l.filter p) := List.Pairwise.sublist List.filter_sublist h
theorem Ris.sub {l m : List Bs} (h : Ris l) (s : m.Sublist l) : Ris m := List.Pairwise.sublist s h
theorem Ris.nodup {l : List Bs} (h : Ris l) : l.Nodup := h.imp fun h => lt_ne h
theorem ris_ext : ∀ {a b : List Bs}, Ris a → Ris b → (∀ x, x ∈ a ↔ x ∈ b) → a = b
  | [], [], _, _, _ => rfl
  | [], y :: s, _, _, h => absurd ((h y).2 List.mem_cons_self) (by simp)
  | x :: r, [], _, _, h => absurd ((h x).1 List.mem_cons_self) (by simp)
  | x :: r, y :: s, ha, hb, h => by
    have e : x = y := by
      rcases List.mem_cons.1 ((h x).1 List.mem_cons_self) with q | q
      · exact q
      · rcases List.mem_cons.1 ((h y).2 List.mem_cons_self) with p | p
        · exact p.symm
        · exact absurd (hb.head x q) (lt_not (ha.head y p))
    subst e
    rw [ris_ext ha.tail hb.tail fun z => ?_]
    constructor
    · intro hz
      rcases List.mem_cons.1 ((h z).1 (List.mem_cons_of_mem _ hz)) with q | q
      · exact absurd q.symm (lt_ne (ha.head z hz))
      · exact q
    · intro hz
      rcases List.mem_cons.1 ((h z).2 (List.mem_cons_of_mem _ hz)) with q | q
      · exact absurd q.symm (lt_ne (hb.head z hz))
      · exact q
def S (l : List Bs) : List Bs := Lib.compact (l.mergeSort leS)
theorem comp_inv (d : Array Bs) (hd : ∀ i j, i ≤ j → j < d.size → d[i]! ≤ d[j]!) : ∀ m, m ≤ d.size → Ris (Lib.compactUpTo d m) ∧ (∀ x ∈ Lib.compactUpTo d m, ∃ j, j < m ∧ x = d[j]!) ∧ ∀ j, j < m → d[j]! ∈ Lib.compactUpTo d m
  | 0, _ => ⟨List.Pairwise.nil, fun x hx => by simp [Lib.compactUpTo] at hx, fun j hj => by omega⟩
  | m + 1, hm => by
    obtain ⟨h1, h2, h3⟩ := comp_inv d hd m (by omega)
    rw [Lib.compactUpTo_succ]
    by_cases hk : Lib.keeps d m = true
    · rw [if_pos hk]
      refine ⟨List.pairwise_append.2 ⟨h1, List.pairwise_singleton _ _, fun x hx y hy => ?_⟩, fun x hx => ?_, fun j hj => ?_⟩
      · obtain rfl := List.mem_singleton.1 hy
        obtain ⟨j, hj, rfl⟩ := h2 x hx
        have h4 : d[j]! ≤ d[m - 1]! := hd j (m - 1) (by omega) (by omega)
        have h5 : d[m - 1]! ≤ d[m]! := hd (m - 1) m (by omega) (by omega)
        have h6 : d[m]! ≠ d[m - 1]! := by
          unfold Lib.keeps at hk
          rcases of_decide_eq_true hk with q | q
          · omega
          · exact q
        exact lt_of_le_lt h4 (lt_of_le_ne h5 h6.symm)
      · rcases List.mem_append.1 hx with q | q
        · obtain ⟨j, hj, e⟩ := h2 x q
          exact ⟨j, by omega, e⟩
        · exact ⟨m, by omega, List.mem_singleton.1 q⟩
      · by_cases q : j = m
        · subst q; exact List.mem_append_right _ (List.mem_singleton.2 rfl)
        · exact List.mem_append_left _ (h3 j (by omega))
    · rw [if_neg hk, List.append_nil]
      refine ⟨h1, fun x hx => ?_, fun j hj => ?_⟩
      · obtain ⟨j, hj, e⟩ := h2 x hx
        exact ⟨j, by omega, e⟩
      · by_cases q : j = m
        · subst q
          have h6 : j ≠ 0 ∧ d[j]! = d[j - 1]! := by
            unfold Lib.keeps at hk
            rw [decide_eq_true_eq] at hk
            rcases Decidable.em (j = 0) with q | q
            · exact absurd (Or.inl q) hk
            · exact ⟨q, Decidable.byContradiction fun e => hk (Or.inr e)⟩
          rw [h6.2]
          exact h3 (j - 1) (by omega)
        · exact h3 j (by omega)
theorem sorted_ms (l : List Bs) : (l.mergeSort leS).Pairwise (fun a b => a ≤ b) := by
  have := List.pairwise_mergeSort (le := leS) (fun a b c h1 h2 => by simp only [leS, decide_eq_true_eq] at *; exact List.le_trans h1 h2) (fun a b => by simp only [leS, Bool.or_eq_true, decide_eq_true_eq]; exact List.le_total a b) l
  exact this.imp fun {a b} hab => by simpa [leS] using hab
theorem S_props (l : List Bs) : Ris (S l) ∧ ∀ x, x ∈ S l ↔ x ∈ l := by
  have hs := sorted_ms l
  have hd : ∀ i j, i ≤ j → j < (l.mergeSort leS).toArray.size → (l.mergeSort leS).toArray[i]! ≤ (l.mergeSort leS).toArray[j]! := by
    intro i j hij hj
    have hj' : j < (l.mergeSort leS).length := by simpa using hj
    have hi' : i < (l.mergeSort leS).length := by omega
    rw [getElem!_pos _ i (by simpa using hi'), getElem!_pos _ j (by simpa using hj')]
    simp only [List.getElem_toArray]
    rcases Nat.lt_or_eq_of_le hij with q | q
    · exact List.pairwise_iff_getElem.1 hs i j hi' hj' q
    · subst q; exact List.le_refl _
  obtain ⟨h1, h2, h3⟩ := comp_inv (l.mergeSort leS).toArray hd (l.mergeSort leS).length (by simp)
  refine ⟨h1, fun x => ⟨fun hx => ?_, fun hx => ?_⟩⟩
  · obtain ⟨j, hj, rfl⟩ := h2 x hx
    rw [getElem!_pos _ j (by simpa using hj)]
    simp only [List.getElem_toArray]
    exact List.mem_mergeSort.1 (List.getElem_mem hj)
  · obtain ⟨j, hj, rfl⟩ := List.getElem_of_mem (List.mem_mergeSort.2 hx : x ∈ l.mergeSort leS)
    have := h3 j hj
    rw [getElem!_pos _ j (by simpa using hj)] at this
    simp only [List.getElem_toArray] at this
    exact this
theorem ris_S (l : List Bs) : Ris (S l) := (S_props l).1
theorem mem_S {l : List Bs} {x : Bs} : x ∈ S l ↔ x ∈ l := (S_props l).2 x
theorem comp_len (zs : List Bs) : (Lib.compact zs).length ≤ zs.length := by
  unfold Lib.compact Lib.compactUpTo
  rw [List.length_map]
  exact Nat.le_trans (List.length_filter_le _ _) (by simp)
theorem len_S (l : List Bs) : (S l).length ≤ l.length := by
  have := comp_len (l.mergeSort leS)
  rw [List.length_mergeSort] at this
  exact this
theorem S_nil : S [] = [] := by
  have := len_S []
  exact List.length_eq_zero_iff.1 (by simpa using this)
theorem S_ext {a b : List Bs} (h : ∀ x, x ∈ a ↔ x ∈ b) : S a = S b := ris_ext (ris_S a) (ris_S b) fun x => by rw [mem_S, mem_S]; exact h x
theorem S_is {a b : List Bs} (hb : Ris b) (h : ∀ x, x ∈ b ↔ x ∈ a) : S a = b := ris_ext (ris_S a) hb fun x => by rw [mem_S]; exact (h x).symm
theorem S_self {l : List Bs} (h : Ris l) : S l = l := S_is h fun _ => Iff.rfl
/-- two rising lists, gone along at once -/
def mrg (f s b : Bool) : List Bs → List Bs → List Bs
  | [], ys => if s then ys else []
  | x :: xs, [] => if f then x :: xs else []
  | x :: xs, y :: ys =>
    if x < y then (if f then [x] else []) ++ mrg f s b xs (y :: ys)
    else if y < x then (if s then [y] else []) ++ mrg f s b (x :: xs) ys
    else (if b then [x] else []) ++ mrg f s b xs ys
  termination_by xs ys => xs.length + ys.length
theorem mrg_end (f s b : Bool) (xs ys : List Bs) (h : xs = [] ∨ ys = []) : mrg f s b xs ys = (if f then xs else []) ++ (if s then ys else []) := by
  rcases h with rfl | rfl
  · unfold mrg; cases f <;> simp
  · cases xs with
    | nil => unfold mrg; cases f <;> cases s <;> simp
    | cons x xs => unfold mrg; cases s <;> simp
theorem mrg_lt (f s b : Bool) {x y : Bs} (xs ys : List Bs) (h : x < y) : mrg f s b (x :: xs) (y :: ys) = (if f then [x] else []) ++ mrg f s b xs (y :: ys) := by
  rw [mrg, if_pos h]
theorem mrg_gt (f s b : Bool) {x y : Bs} (xs ys : List Bs) (h : y < x) : mrg f s b (x :: xs) (y :: ys) = (if s then [y] else []) ++ mrg f s b (x :: xs) ys := by
  rw [mrg, if_neg (lt_not h), if_pos h]
theorem mrg_eq (f s b : Bool) (x : Bs) (xs ys : List Bs) : mrg f s b (x :: xs) (x :: ys) = (if b then [x] else []) ++ mrg f s b xs ys := by
  rw [mrg, if_neg (List.lt_irrefl x), if_neg (List.lt_irrefl x)]
theorem mrg_ind {P : List Bs → List Bs → Prop} (h1 : ∀ ys, P [] ys) (h2 : ∀ x xs, P (x :: xs) []) (h3 : ∀ x xs y ys, x < y → P xs (y :: ys) → P (x :: xs) (y :: ys)) (h4 : ∀ x xs y ys, y < x → P (x :: xs) ys → P (x :: xs) (y :: ys)) (h5 : ∀ x xs ys, P xs ys → P (x :: xs) (x :: ys)) :
    ∀ (n : Nat) (xs ys : List Bs), xs.length + ys.length ≤ n → P xs ys
  | _, [], ys, _ => h1 ys
  | _, x :: xs, [], _ => h2 x xs
  | 0, x :: xs, y :: ys, h => by simp at h
  | n + 1, x :: xs, y :: ys, h => by
    rcases lt_tot x y with q | q | q
    · exact h3 x xs y ys q (mrg_ind h1 h2 h3 h4 h5 n xs (y :: ys) (by simp at h ⊢; omega))
    · subst q; exact h5 x xs ys (mrg_ind h1 h2 h3 h4 h5 n xs ys (by simp at h ⊢; omega))
    · exact h4 x xs y ys q (mrg_ind h1 h2 h3 h4 h5 n (x :: xs) ys (by simp at h ⊢; omega))
theorem mrg_len (f s b : Bool) (xs ys : List Bs) : (mrg f s b xs ys).length ≤ xs.length + ys.length := by
  refine mrg_ind (P := fun xs ys => (mrg f s b xs ys).length ≤ xs.length + ys.length) ?_ ?_ ?_ ?_ ?_ _ xs ys (Nat.le_refl _)
  · intro ys; rw [mrg_end _ _ _ _ _ (.inl rfl)]; cases f <;> cases s <;> simp
  · intro x xs; rw [mrg_end _ _ _ _ _ (.inr rfl)]; cases f <;> cases s <;> simp
  · intro x xs y ys h ih; rw [mrg_lt _ _ _ _ _ h]; cases f <;> simp at ih ⊢ <;> omega
  · intro x xs y ys h ih; rw [mrg_gt _ _ _ _ _ h]; cases s <;> simp at ih ⊢ <;> omega
  · intro x xs ys ih; rw [mrg_eq]; cases b <;> simp at ih ⊢ <;> omega
theorem mrg_props (f s b : Bool) (xs ys : List Bs) (hx : Ris xs) (hy : Ris ys) : Ris (mrg f s b xs ys) ∧ ∀ z, z ∈ mrg f s b xs ys ↔ (f = true ∧ z ∈ xs ∧ z ∉ ys) ∨ (s = true ∧ z ∈ ys ∧ z ∉ xs) ∨ (b = true ∧ z ∈ xs ∧ z ∈ ys) := by
  revert hx hy
  refine mrg_ind (P := fun xs ys => Ris xs → Ris ys → Ris (mrg f s b xs ys) ∧ ∀ z, z ∈ mrg f s b xs ys ↔ (f = true ∧ z ∈ xs ∧ z ∉ ys) ∨ (s = true ∧ z ∈ ys ∧ z ∉ xs) ∨ (b = true ∧ z ∈ xs ∧ z ∈ ys)) ?_ ?_ ?_ ?_ ?_ _ xs ys (Nat.le_refl _)
  · intro ys hx hy; rw [mrg_end _ _ _ _ _ (.inl rfl)]; cases f <;> cases s <;> simp <;> first | exact hy | exact Ris.nil
  · intro x xs hx hy; rw [mrg_end _ _ _ _ _ (.inr rfl)]; cases f <;> cases s <;> simp <;> first | exact hx | exact Ris.nil
  · intro x xs y ys h ih hx hy
    obtain ⟨r, m⟩ := ih hx.tail hy
    rw [mrg_lt _ _ _ _ _ h]
    have hxy : x ∉ y :: ys := fun q => by
      rcases List.mem_cons.1 q with q | q
      · exact lt_ne h q
      · exact lt_not h (hy.head x q)
    have hxx : x ∉ xs := fun q => lt_ne (hx.head x q) rfl
    constructor
    · refine List.pairwise_append.2 ⟨by cases f <;> simp, r, fun u hu v hv => ?_⟩
      have eu : u = x := by cases f <;> simp at hu; exact hu
      subst eu
      have hv' : v ∈ xs ∨ v ∈ y :: ys := by
        rcases (m v).1 hv with q | q | q
        · exact .inl q.2.1
        · exact .inr q.2.1
        · exact .inl q.2.1
      rcases hv' with q | q
      · exact hx.head v q
      · rcases List.mem_cons.1 q with q | q
        · rw [q]; exact h
        · exact List.lt_trans h (hy.head v q)
    · intro z
      rw [List.mem_append, m z]
      by_cases e : z = x
      · subst e
        have h1 : z ≠ y := lt_ne h
        have h2 : z ∉ ys := fun q => hxy (List.mem_cons_of_mem _ q)
        cases f <;> simp [hxx, h1, h2]
      · cases f <;> simp [e]
  · intro x xs y ys h ih hx hy
    obtain ⟨r, m⟩ := ih hx hy.tail
    rw [mrg_gt _ _ _ _ _ h]
    have hyx : y ∉ x :: xs := fun q => by
      rcases List.mem_cons.1 q with q | q
      · exact lt_ne h q
      · exact lt_not h (hx.head y q)
    have hyy : y ∉ ys := fun q => lt_ne (hy.head y q) rfl
    constructor
    · refine List.pairwise_append.2 ⟨by cases s <;> simp, r, fun u hu v hv => ?_⟩
      have eu : u = y := by cases s <;> simp at hu; exact hu
      subst eu
      have hv' : v ∈ x :: xs ∨ v ∈ ys := by
        rcases (m v).1 hv with q | q | q
        · exact .inl q.2.1
        · exact .inr q.2.1
        · exact .inl q.2.1
      rcases hv' with q | q
      · rcases List.mem_cons.1 q with q | q
        · rw [q]; exact h
        · exact List.lt_trans h (hx.head v q)
      · exact hy.head v q
    · intro z
      rw [List.mem_append, m z]
      by_cases e : z = y
      · subst e
        have h1 : z ≠ x := lt_ne h
        have h2 : z ∉ xs := fun q => hyx (List.mem_cons_of_mem _ q)
        cases s <;> simp [hyy, h1, h2]
      · cases s <;> simp [e]
  · intro x xs ys ih hx hy
    obtain ⟨r, m⟩ := ih hx.tail hy.tail
    rw [mrg_eq]
    have hxx : x ∉ xs := fun q => lt_ne (hx.head x q) rfl
    have hyy : x ∉ ys := fun q => lt_ne (hy.head x q) rfl
    constructor
    · refine List.pairwise_append.2 ⟨by cases b <;> simp, r, fun u hu v hv => ?_⟩
      have eu : u = x := by cases b <;> simp at hu; exact hu
      subst eu
      rcases (m v).1 hv with q | q | q
      · exact hx.head v q.2.1
      · exact hy.head v q.2.1
      · exact hx.head v q.2.1
    · intro z
      rw [List.mem_append, m z]
      by_cases e : z = x
      · subst e
        cases b <;> simp [hxx, hyy]
      · cases b <;> simp [e]
/-- what l has and not m -/
def dif (l m : List Bs) : List Bs := (S l).filter fun x => decide (x ∉ m)
def int (l m : List Bs) : List Bs := (S l).filter fun x => decide (x ∈ m)
theorem add_is (l m : List Bs) : mrg true true true (S l) (S m) = S (l ++ m) := by
  obtain ⟨r, h⟩ := mrg_props true true true (S l) (S m) (ris_S l) (ris_S m)
  refine (S_is r fun x => ?_).symm
  rw [h x, List.mem_append, mem_S, mem_S]
  by_cases h1 : x ∈ l <;> by_cases h2 : x ∈ m <;> simp [h1, h2]
theorem rem_is (l m : List Bs) : mrg true false false (S l) (S m) = dif l m := by
  obtain ⟨r, h⟩ := mrg_props true false false (S l) (S m) (ris_S l) (ris_S m)
  unfold dif
  refine ris_ext r ((ris_S l).filter _) fun x => ?_
  rw [h x, List.mem_filter, mem_S, mem_S]
  simp
theorem int_is (l m : List Bs) (hl : Ris l) : mrg false false true l (S m) = l.filter fun x => decide (x ∈ m) := by
  obtain ⟨r, h⟩ := mrg_props false false true l (S m) hl (ris_S m)
  refine ris_ext r (hl.filter _) fun x => ?_
  rw [h x, List.mem_filter, mem_S]
  simp
/-- several lists -/
def uni (ls : List (List Bs)) : List Bs := S ls.flatten
def inter : List (List Bs) → List Bs
  | [] => []
  | l :: ls => (S l).filter fun x => ls.all fun m => decide (x ∈ m)
def diff : List (List Bs) → List Bs
  | [] => []
  | l :: ls => (S l).filter fun x => ls.all fun m => decide (x ∉ m)
theorem uni_nil : uni [] = [] := by unfold uni; exact S_nil
theorem uni_one (l : List Bs) : uni [l] = S l := by unfold uni; simp
theorem uni_app (a b : List (List Bs)) : mrg true true true (uni a) (uni b) = uni (a ++ b) := by
  unfold uni
  rw [add_is, List.flatten_append]
theorem ris_uni (ls : List (List Bs)) : Ris (uni ls) := ris_S _
theorem mem_uni {ls : List (List Bs)} {x : Bs} : x ∈ uni ls ↔ ∃ l ∈ ls, x ∈ l := by unfold uni; rw [mem_S, List.mem_flatten]
theorem ris_inter (ls : List (List Bs)) : Ris (inter ls) := by
  cases ls with
  | nil => exact Ris.nil
  | cons l ls => exact (ris_S l).filter _
theorem mem_inter {l : List Bs} {ls : List (List Bs)} {x : Bs} : x ∈ inter (l :: ls) ↔ x ∈ l ∧ ∀ m ∈ ls, x ∈ m := by
  unfold inter
  rw [List.mem_filter, mem_S, List.all_eq_true]
  simp
theorem inter_snoc (l : List Bs) (ls : List (List Bs)) (m : List Bs) : (inter (l :: ls)).filter (fun x => decide (x ∈ m)) = inter (l :: (ls ++ [m])) := by
  refine ris_ext ((ris_inter _).filter _) (ris_inter _) fun x => ?_
  rw [List.mem_filter, mem_inter, mem_inter]
  simp only [List.mem_append, List.mem_singleton, decide_eq_true_eq]
  constructor
  · rintro ⟨⟨h1, h2⟩, h3⟩
    refine ⟨h1, fun k hk => ?_⟩
    rcases hk with hk | rfl
    · exact h2 k hk
    · exact h3
  · rintro ⟨h1, h2⟩
    exact ⟨⟨h1, fun k hk => h2 k (.inl hk)⟩, h2 m (.inr rfl)⟩
theorem inter_one (l : List Bs) : inter [l] = S l := by unfold inter; simp
theorem mem_diff {l : List Bs} {ls : List (List Bs)} {x : Bs} : x ∈ diff (l :: ls) ↔ x ∈ l ∧ ∀ m ∈ ls, x ∉ m := by
  unfold diff
  rw [List.mem_filter, mem_S, List.all_eq_true]
  simp
theorem ris_diff (ls : List (List Bs)) : Ris (diff ls) := by
  cases ls with
  | nil => exact Ris.nil
  | cons l ls => exact (ris_S l).filter _
theorem diff_is (l : List Bs) (ls : List (List Bs)) : mrg true false false (S l) (uni ls) = diff (l :: ls) := by
  obtain ⟨r, h⟩ := mrg_props true false false (S l) (uni ls) (ris_S l) (ris_uni ls)
  refine ris_ext r (ris_diff _) fun x => ?_
  rw [h x, mem_diff, mem_uni, mem_S]
  simp
theorem len_uni (ls : List (List Bs)) : (uni ls).length ≤ (ls.map (·.length)).sum := by
  unfold uni
  have := len_S ls.flatten
  rw [List.length_flatten] at this
  exact this
theorem len_inter (l : List Bs) (ls : List (List Bs)) : (inter (l :: ls)).length ≤ l.length := by
  unfold inter
  exact Nat.le_trans (List.length_filter_le _ _) (len_S l)
theorem len_diff (l : List Bs) (ls : List (List Bs)) : (diff (l :: ls)).length ≤ l.length := by
  unfold diff
  exact Nat.le_trans (List.length_filter_le _ _) (len_S l)
/-- behind a text -/
def beh (l : List Bs) (m : Bs) : List Bs := (S l).filter fun x => decide (m < x)
def aft (l : List Bs) (m : Bs) (k : Nat) : List Bs := (beh l m).take k
/-- where a text stands, or would stand -/
def pos (l : List Bs) (m : Bs) : Nat := (l.takeWhile fun x => decide (x < m)).length
theorem pos_le (l : List Bs) (m : Bs) : pos l m ≤ l.length := by unfold pos; exact (List.takeWhile_sublist _).length_le
theorem pos_below : ∀ {l : List Bs} {m : Bs} {j : Nat} (h : j < l.length), j < pos l m → l[j] < m
  | a :: r, m, j, h, q => by
    unfold pos at q
    rw [List.takeWhile_cons] at q
    by_cases ha : a < m
    · rw [if_pos (decide_eq_true ha)] at q
      cases j with
      | zero => exact ha
      | succ j => exact pos_below (l := r) (by simpa using h) (by unfold pos; simpa using q)
    · rw [if_neg (by simpa using ha)] at q
      simp at q
theorem pos_above : ∀ {l : List Bs} {m : Bs} {j : Nat} (hr : Ris l) (h : j < l.length), pos l m ≤ j → ¬ l[j] < m
  | a :: r, m, j, hr, h, q => by
    by_cases ha : a < m
    · have e : pos (a :: r) m = pos r m + 1 := by unfold pos; rw [List.takeWhile_cons, if_pos (decide_eq_true ha)]; rfl
      rw [e] at q
      cases j with
      | zero => omega
      | succ j => exact pos_above (l := r) hr.tail (by simpa using h) (by omega)
    · intro k
      cases j with
      | zero => exact ha k
      | succ j =>
        have h2 : j < r.length := by simpa using h
        exact ha (List.lt_trans (hr.head _ (List.getElem_mem h2)) k)
theorem ris_at {l : List Bs} (hr : Ris l) {i j : Nat} (hij : i < j) (hj : j < l.length) : l[i] < l[j] := List.pairwise_iff_getElem.1 hr i j (by omega) hj hij
theorem drop_beh {l : List Bs} {m : Bs} (hr : Ris l) : l.filter (fun x => decide (m < x)) = l.drop (if pos l m < l.length ∧ l[pos l m]? = some m then pos l m + 1 else pos l m) := by
  induction l with
  | nil => simp
  | cons a r ih =>
    by_cases ha : a < m
    · have e : pos (a :: r) m = pos r m + 1 := by unfold pos; rw [List.takeWhile_cons, if_pos (decide_eq_true ha)]; rfl
      rw [List.filter_cons, if_neg (by simpa using lt_not ha), ih hr.tail, e]
      by_cases q : pos r m < r.length ∧ r[pos r m]? = some m
      · rw [if_pos q, if_pos ⟨by simpa using q.1, by simpa using q.2⟩]; rfl
      · rw [if_neg q, if_neg (fun k => q ⟨by simpa using k.1, by simpa using k.2⟩)]; rfl
    · have e : pos (a :: r) m = 0 := by unfold pos; rw [List.takeWhile_cons, if_neg (by simpa using ha)]; rfl
      rw [e]
      by_cases q : a = m
      · subst q
        rw [if_pos ⟨by simp, by simp⟩, List.filter_cons, if_neg (by simp)]
        simp only [Nat.zero_add, List.drop_one, List.tail_cons]
        exact List.filter_eq_self.2 fun x hx => decide_eq_true (hr.head x hx)
      · rw [if_neg (fun k => q (by simpa using k.2)), List.drop_zero]
        have hm : m < a := by
          rcases lt_tot a m with p | p | p
          · exact absurd p ha
          · exact absurd p q
          · exact p
        exact List.filter_eq_self.2 fun x hx => by
          rcases List.mem_cons.1 hx with rfl | hx
          · exact decide_eq_true hm
          · exact decide_eq_true (List.lt_trans hm (hr.head x hx))
theorem len_aft (l : List Bs) (m : Bs) (k : Nat) : (aft l m k).length ≤ l.length := by
  unfold aft beh
  rw [List.length_take]
  exact Nat.le_trans (Nat.min_le_right _ _) (Nat.le_trans (List.length_filter_le _ _) (len_S l))
instance decRis (l : List Bs) : Decidable (Ris l) := inferInstanceAs (Decidable (l.Pairwise (· < ·)))
end Go.Proofs.Ytdcnkdkhanmklaa.SetMath
end
section
namespace Go.Proofs.Ytdcnkdkhanmklaa.BytesMath

def leN : List UInt8 → Nat
  | [] => 0
  | c :: t => c.toNat + 256 * leN t
theorem leN_append (l m : List UInt8) : leN (l ++ m) = leN l + 256 ^ l.length * leN m := by
  induction l with
  | nil => simp [leN]
  | cons c t ih =>
    simp only [List.cons_append, leN, ih, List.length_cons, Nat.pow_succ]
    rw [Nat.mul_add, Nat.add_assoc, Nat.mul_comm (256 ^ t.length) 256, Nat.mul_assoc]
theorem leN_lt (l : List UInt8) : leN l < 256 ^ l.length := by
  induction l with
  | nil => simp [leN]
  | cons c t ih =>
    have := c.toNat_lt
    simp only [leN, List.length_cons, Nat.pow_succ]; omega
theorem len_eq (s : ByteArray) : s.data.toList.length = s.size := Array.length_toList
theorem take_snoc (s : ByteArray) (k : Nat) (h : k < s.size) : s.data.toList.take (k + 1) = s.data.toList.take k ++ [s[k]] := by
  rw [List.take_succ_eq_append_getElem (by simpa using h)]; rfl
theorem drop_cons (s : ByteArray) (k : Nat) (h : k < s.size) : s.data.toList.drop k = s[k] :: s.data.toList.drop (k + 1) := by
  rw [List.drop_eq_getElem_cons (by simpa using h)]; rfl
theorem pow256 (k : Nat) : (256 : Nat) ^ k = 2 ^ (8 * k) := by rw [show (256 : Nat) = 2 ^ 8 from rfl, ← Nat.pow_mul]
theorem or_step (x c k : Nat) (hk : k < 8) (hx : x < 256 ^ k) (hc : c < 256) :
    bits .or .u64 (x : Int) (IntKind.u64.wrap (IntKind.u64.wrap (c : Int) * 2 ^ (8 * k))) = ((x + 256 ^ k * c : Nat) : Int) := by
  have hp : 2 ^ (8 * k) ≤ 2 ^ 56 := Nat.pow_le_pow_right (by omega) (by omega)
  have hb : c * 2 ^ (8 * k) ≤ 255 * 2 ^ 56 := Nat.mul_le_mul (by omega) hp
  rw [pow256] at hx
  have e1 : IntKind.u64.wrap (c : Int) = (c : Int) := by rw [IntKind.wrap_u64]; omega
  have e2 : ((c : Int) * 2 ^ (8 * k)) = ((c * 2 ^ (8 * k) : Nat) : Int) := by simp
  have e3 : IntKind.u64.wrap ((c * 2 ^ (8 * k) : Nat) : Int) = ((c * 2 ^ (8 * k) : Nat) : Int) := by rw [IntKind.wrap_u64]; omega
  rw [e1, e2, e3, u64_or_nat _ _ (by omega) (by omega), pow256, Nat.or_comm, Nat.mul_comm c, ← Nat.two_pow_add_eq_or_of_lt hx, Nat.add_comm]
theorem unfix_step (s : ByteArray) (k : Nat) (hk : k < s.size) (h8 : s.size ≤ 8) :
    bits .or .u64 ((leN (s.data.toList.take k) : Nat) : Int) (IntKind.u64.wrap (IntKind.u64.wrap (s[k].toNat : Int) * 2 ^ (8 * k))) = ((leN (s.data.toList.take (k + 1)) : Nat) : Int) := by
  have hl : (s.data.toList.take k).length = k := by
    have : s.data.toList.length = s.size := len_eq s
    simp; omega
  have hx := leN_lt (s.data.toList.take k)
  rw [hl] at hx
  rw [take_snoc s k hk, leN_append, hl, or_step _ _ _ (by omega) hx (s[k].toNat_lt)]
  simp [leN]
theorem runfix_step (s : ByteArray) (k : Nat) (h1 : 1 ≤ k) (hk : k ≤ s.size) (h8 : s.size ≤ 8) (hi : k - 1 < s.size) :
    IntKind.u64.wrap (IntKind.u64.wrap (256 * ((leN (s.data.toList.drop k) : Nat) : Int)) + IntKind.u64.wrap (s[k - 1].toNat : Int)) = ((leN (s.data.toList.drop (k - 1)) : Nat) : Int) := by
  have hl : (s.data.toList.drop (k - 1)).length ≤ 8 := by
    have : s.data.toList.length = s.size := len_eq s
    simp; omega
  have hx := leN_lt (s.data.toList.drop (k - 1))
  have hp : 256 ^ (s.data.toList.drop (k - 1)).length ≤ 256 ^ 8 := Nat.pow_le_pow_right (by omega) hl
  have e := drop_cons s (k - 1) hi
  rw [show k - 1 + 1 = k from by omega] at e
  rw [e] at hx hp ⊢
  simp only [leN] at hx ⊢
  simp only [IntKind.wrap_u64]
  omega
theorem take_all (s : ByteArray) (k : Nat) (h : s.size ≤ k) : s.data.toList.take k = s.data.toList :=
  List.take_of_length_le (by have : s.data.toList.length = s.size := len_eq s
                             omega)
theorem drop_all (s : ByteArray) : s.data.toList.drop s.size = [] :=
  List.drop_eq_nil_of_le (by have : s.data.toList.length = s.size := len_eq s
                             omega)
def unfB (s : ByteArray) : Bool := decide (1 ≤ s.size ∧ s.size ≤ 8)
def unfV (s : ByteArray) : Int := if unfB s = true then (leN s.data.toList : Int) else 0
def unfE (s : ByteArray) : Int := if unfB s = true then 0 else 12
end Go.Proofs.Ytdcnkdkhanmklaa.BytesMath
end
section
namespace Go.Proofs.Ytdcnkdkhanmklaa.FixMath

/-! ### a number's bytes -/
def bt (u : Int) (j : Nat) : Int := (u / 2 ^ (8 * j)) % 256
theorem bt_bd (u : Int) (j : Nat) : 0 ≤ bt u j ∧ bt u j < 256 := by unfold bt; omega
theorem bt_wrap (u : Int) (j : Nat) : IntKind.u8.wrap (u / 2 ^ (8 * j)) = bt u j := by rw [IntKind.wrap_u8]; rfl
/-- the cells behind k rounds: k bytes of u, then noughts -/
def rowK (u : Int) (n k : Nat) : List Value := (List.range n).map fun j => Value.int .u8 (if j < k then bt u j else 0)
theorem rowK_len (u : Int) (n k : Nat) : (rowK u n k).length = n := by simp [rowK]
theorem rowK_get (u : Int) (n k j : Nat) (h : j < n) : (rowK u n k)[j]? = some (Value.int .u8 (if j < k then bt u j else 0)) := by
  simp [rowK, h]
theorem rowK_zero (u : Int) (n : Nat) : rowK u n 0 = List.replicate n (Value.int .u8 0) := by
  apply List.ext_getElem?
  intro j
  by_cases h : j < n
  · rw [rowK_get u n 0 j h]; simp [h]
  · rw [List.getElem?_eq_none (by rw [rowK_len]; omega), List.getElem?_eq_none (by simp; omega)]
theorem rowK_succ (u : Int) (n k : Nat) : (rowK u n k).set k (Value.int .u8 (bt u k)) = rowK u n (k + 1) := by
  apply List.ext_getElem?
  intro j
  by_cases h : j < n
  · rw [rowK_get u n (k + 1) j h, List.getElem?_set]
    by_cases e : k = j
    · subst e; simp [rowK_len, h]
    · rw [if_neg e, rowK_get u n k j h]
      by_cases l : j < k
      · rw [if_pos l, if_pos (by omega)]
      · rw [if_neg l, if_neg (by omega)]
  · rw [List.getElem?_eq_none (by rw [List.length_set, rowK_len]; omega), List.getElem?_eq_none (by rw [rowK_len]; omega)]
/-- so many bytes of a number -/
def leY (u : Int) (n : Nat) : List UInt8 := (List.range n).map fun j => UInt8.ofNat (bt u j).toNat
theorem leY_len (u : Int) (n : Nat) : (leY u n).length = n := by simp [leY]
theorem leY_get (u : Int) (n j : Nat) (h : j < (leY u n).length) : (leY u n)[j] = UInt8.ofNat (bt u j).toNat := by simp [leY]
theorem leY_toNat (u : Int) (n j : Nat) (h : j < (leY u n).length) : (((leY u n)[j]).toNat : Int) = bt u j := by
  rw [leY_get]
  have := bt_bd u j
  simp; omega
theorem leY_succ (u : Int) (n : Nat) : leY u (n + 1) = leY u n ++ [UInt8.ofNat (bt u n).toNat] := by
  simp [leY, List.range_succ]
/-- the cells of k bytes -/
def rowC (u : Int) (k : Nat) : List Value := (List.range k).map fun j => Value.int .u8 (bt u j)
theorem rowC_len (u : Int) (k : Nat) : (rowC u k).length = k := by simp [rowC]
theorem rowC_get (u : Int) (k j : Nat) (h : j < k) : (rowC u k)[j]? = some (Value.int .u8 (bt u j)) := by simp [rowC, h]
theorem rowC_succ (u : Int) (k : Nat) : rowC u k ++ [Value.int .u8 (bt u k)] = rowC u (k + 1) := by simp [rowC, List.range_succ]
theorem rowK_end (u : Int) (n : Nat) : rowK u n n = rowC u n := by
  apply List.ext_getElem?
  intro j
  by_cases h : j < n
  · rw [rowK_get u n n j h, rowC_get u n j h, if_pos h]
  · rw [List.getElem?_eq_none (by rw [rowK_len]; omega), List.getElem?_eq_none (by rw [rowC_len]; omega)]
theorem quo_step (u : Int) (k : Nat) : u / 2 ^ (8 * k) / 256 = u / 2 ^ (8 * (k + 1)) := by
  rw [Int.ediv_ediv_of_nonneg (Int.le_of_lt (Int.pow_pos (by omega)))]
  congr 1
  rw [show 8 * (k + 1) = 8 * k + 8 from by omega, Int.pow_add]
  rfl
theorem quo_bd (u : Int) (k : Nat) (h0 : 0 ≤ u) (h1 : u ≤ 18446744073709551615) : 0 ≤ u / 2 ^ (8 * k) ∧ u / 2 ^ (8 * k) ≤ 18446744073709551615 := by
  have hp : (0 : Int) < 2 ^ (8 * k) := Int.pow_pos (by omega)
  refine ⟨Int.ediv_nonneg h0 (Int.le_of_lt hp), ?_⟩
  exact Int.le_trans (Int.ediv_le_self _ h0) h1
theorem size_of (l : List UInt8) : (⟨l.toArray⟩ : ByteArray).size = l.length := by simp [ByteArray.size]
end Go.Proofs.Ytdcnkdkhanmklaa.FixMath
end
section
namespace Go.Proofs.Ytdcnkdkhanmklaa.ValueMath
open Go.Proofs.Ytdcnkdkhanmklaa.SetMath
open Go.Proofs.Ytdcnkdkhanmklaa.BytesMath
open Go.Proofs.Ytdcnkdkhanmklaa.FixMath
set_option linter.unusedVariables false
abbrev FL := List (Bs × Bs)
abbrev EL := List (Bs × Int)
structure Vl where
  kind : Int
  text : Bs
  list : List Bs
  fields : FL
  ranked : EL
/- whether a value may be -/
def tOk (t : Bs) : Bool := decide (t.length ≤ 1048576)
def lOk (l : List Bs) : Bool := l.all tOk && decide (0 < l.length)
def setOk (l : List Bs) : Bool := lOk l && decide (Ris l)
def fnames (f : FL) : List Bs := f.map (·.1)
def hashOk (f : FL) : Bool := f.all (fun p => tOk p.2) && setOk (fnames f)
def ahd (a b : Bs × Int) : Bool := decide (a.2 < b.2) || (a.2 == b.2 && decide (a.1 < b.1))
def scOk (n : Int) : Bool := decide (-9007199254740992 ≤ n) && decide (n ≤ 9007199254740992)
def okAt (l : EL) (k : Nat) : Bool := match l[k]? with
  | none => true
  | some e => scOk e.2 && (k == 0 || match l[k - 1]? with
    | none => true
    | some a => ahd a e)
def ordB (l : EL) : Bool := (List.range l.length).all (okAt l)
def enames (l : EL) : List Bs := l.map (·.1)
def rankOk (l : EL) : Bool := ordB l && lOk (enames l) && ((S (enames l)).length == l.length)
def stray (v : Vl) : Bool := (v.text != [] && v.kind != 1) || (v.list != [] && v.kind != 2 && v.kind != 4) || (v.fields != [] && v.kind != 3) || (v.ranked != [] && v.kind != 5)
def mayBe (v : Vl) : Bool := if v.kind = 1 then tOk v.text else if v.kind = 2 then lOk v.list else if v.kind = 3 then hashOk v.fields else if v.kind = 4 then setOk v.list else rankOk v.ranked
def chk (v : Vl) : Int := if v.kind < 1 ∨ 5 < v.kind then 130 else if stray v = true ∨ mayBe v = false then 131 else 0
/- bytes -/
def le4 (n : Nat) : Bs := leY n 4
def le8 (n : Int) : Bs := leY (IntKind.u64.wrap n) 8
def encT (t : Bs) : Bs := le4 t.length ++ t
def encF (p : Bs × Bs) : Bs := encT p.1 ++ encT p.2
def encE (p : Bs × Int) : Bs := le8 p.2 ++ encT p.1
def encC {α : Type} (f : α → Bs) (l : List α) : Bs := le4 l.length ++ l.flatMap f
def encB (v : Vl) : Bs := if v.kind = 1 then encT v.text else if v.kind = 2 ∨ v.kind = 4 then encC encT v.list else if v.kind = 3 then encC encF v.fields else encC encE v.ranked
def enc (v : Vl) : Bs := UInt8.ofNat v.kind.toNat :: encB v
/- reading -/
def rdN (w : Nat) (s : Bs) : Option (Nat × Bs) := if s.length < w then none else some (leN (s.take w), s.drop w)
def rdTk (n : Nat) (s : Bs) : Option (Bs × Bs) := if s.length < n then none else some (s.take n, s.drop n)
def rdT (s : Bs) : Option (Bs × Bs) := (rdN 4 s).bind fun p => rdTk p.1 p.2
def rdF (s : Bs) : Option ((Bs × Bs) × Bs) := (rdT s).bind fun p => (rdT p.2).bind fun q => some ((p.1, q.1), q.2)
def rdE (s : Bs) : Option ((Bs × Int) × Bs) := (rdN 8 s).bind fun p => (rdT p.2).bind fun q => some ((q.1, IntKind.i64.wrap p.1), q.2)
def many {α : Type} (p : Bs → Option (α × Bs)) : Nat → Bs → Option (List α × Bs)
  | 0, s => some ([], s)
  | n + 1, s => (p s).bind fun q => (many p n q.2).bind fun t => some (q.1 :: t.1, t.2)
def rdC {α : Type} (p : Bs → Option (α × Bs)) (s : Bs) : Option (List α × Bs) := (rdN 4 s).bind fun q => many p q.1 q.2
def bodyS (k : Nat) (s : Bs) : Option (Vl × Bs) :=
  if k = 1 then (rdT s).bind fun q => some (⟨1, q.1, [], [], []⟩, q.2)
  else if k = 2 ∨ k = 4 then (rdC rdT s).bind fun q => some (⟨k, [], q.1, [], []⟩, q.2)
  else if k = 3 then (rdC rdF s).bind fun q => some (⟨3, [], [], q.1, []⟩, q.2)
  else if k = 5 then (rdC rdE s).bind fun q => some (⟨5, [], [], [], q.1⟩, q.2)
  else none
def valS (s : Bs) : Option (Vl × Bs) := (rdN 1 s).bind fun p => bodyS p.1 p.2
def decS (s : Bs) : Option (Vl × Nat) := (valS s).bind fun q => if chk q.1 = 0 then some (q.1, s.length - q.2.length) else none

/- numbers there and back -/
theorem leY_cons (u : Int) (n : Nat) : leY u (n + 1) = UInt8.ofNat (bt u 0).toNat :: leY (u / 256) n := by
  unfold leY
  rw [List.range_succ_eq_map, List.map_cons, List.map_map]
  congr 1
  apply List.map_congr_left
  intro j _
  show UInt8.ofNat (bt u (j + 1)).toNat = UInt8.ofNat (bt (u / 256) j).toNat
  unfold bt
  rw [← quo_step]
  have : u / 2 ^ (8 * j) / 256 = u / 256 / 2 ^ (8 * j) := by
    rw [Int.ediv_ediv_of_nonneg (Int.le_of_lt (Int.pow_pos (by omega))), Int.ediv_ediv_of_nonneg (by omega), Int.mul_comm]
  rw [this]
theorem leN_leY : ∀ (n : Nat) (u : Nat), u < 256 ^ n → leN (leY u n) = u
  | 0, u, h => by simp at h; subst h; rfl
  | n + 1, u, h => by
    rw [leY_cons]
    have e : ((u : Int) / 256) = ((u / 256 : Nat) : Int) := by simp
    rw [e]
    show (UInt8.ofNat (bt u 0).toNat).toNat + 256 * leN (leY ((u / 256 : Nat) : Int) n) = u
    rw [leN_leY n (u / 256) (by rw [Nat.pow_succ] at h; omega)]
    have : (bt u 0) = ((u % 256 : Nat) : Int) := by unfold bt; simp
    rw [this]
    simp
    omega
theorem leY_leN : ∀ (l : Bs), leY (leN l) l.length = l
  | [] => rfl
  | c :: t => by
    rw [List.length_cons, leY_cons]
    have hc := c.toNat_lt
    have e1 : (((leN (c :: t) : Nat) : Int) / 256) = ((leN t : Nat) : Int) := by simp only [leN]; omega
    have e2 : bt (leN (c :: t) : Nat) 0 = (c.toNat : Int) := by unfold bt; simp only [leN]; simp; omega
    rw [e1, e2, leY_leN t]
    simp
theorem len_le4 (n : Nat) : (le4 n).length = 4 := leY_len _ _
theorem len_le8 (n : Int) : (le8 n).length = 8 := leY_len _ _
theorem rdN_some {w : Nat} {s r : Bs} {n : Nat} (h : rdN w s = some (n, r)) : s = leY n w ++ r ∧ n < 256 ^ w := by
  unfold rdN at h
  split at h
  · cases h
  · injection h with h
    injection h with h1 h2
    have hl : (s.take w).length = w := by rw [List.length_take]; omega
    have e := leY_leN (s.take w)
    have b := leN_lt (s.take w)
    rw [hl, h1] at e
    rw [hl, h1] at b
    refine ⟨?_, b⟩
    rw [e, ← h2, List.take_append_drop]
theorem rdN_app (w n : Nat) (h : n < 256 ^ w) (s : Bs) : rdN w (leY n w ++ s) = some (n, s) := by
  have hl : (leY (n : Int) w).length = w := leY_len _ _
  unfold rdN
  rw [if_neg (by rw [List.length_append]; omega), List.take_left' hl, List.drop_left' hl, leN_leY w n h]
theorem rdTk_some {s t r : Bs} {n : Nat} (h : rdTk n s = some (t, r)) : s = t ++ r ∧ t.length = n := by
  unfold rdTk at h
  split at h
  · cases h
  · injection h with h
    injection h with h1 h2
    rw [← h1, ← h2]
    exact ⟨(List.take_append_drop _ _).symm, by rw [List.length_take]; omega⟩
theorem rdTk_app (t s : Bs) : rdTk t.length (t ++ s) = some (t, s) := by
  unfold rdTk
  rw [if_neg (by rw [List.length_append]; omega), List.take_left' rfl, List.drop_left' rfl]
theorem rdT_some {s t r : Bs} (h : rdT s = some (t, r)) : s = encT t ++ r ∧ t.length < 4294967296 := by
  unfold rdT at h
  obtain ⟨⟨n, r1⟩, h1, h2⟩ := Option.bind_eq_some_iff.1 h
  obtain ⟨e1, b⟩ := rdN_some h1
  obtain ⟨e2, e3⟩ := rdTk_some h2
  simp only at e2 e3
  subst e3
  rw [e1, e2]
  exact ⟨by unfold encT le4; rw [List.append_assoc], by simpa using b⟩
theorem rdT_app (t s : Bs) (h : t.length < 4294967296) : rdT (encT t ++ s) = some (t, s) := by
  unfold rdT encT le4
  rw [List.append_assoc, rdN_app 4 t.length (by simpa using h)]
  exact rdTk_app t s
theorem rdF_some {s r : Bs} {p : Bs × Bs} (h : rdF s = some (p, r)) : s = encF p ++ r ∧ p.1.length < 4294967296 ∧ p.2.length < 4294967296 := by
  unfold rdF at h
  obtain ⟨⟨a, r1⟩, h1, h2⟩ := Option.bind_eq_some_iff.1 h
  obtain ⟨⟨b, r2⟩, h3, h4⟩ := Option.bind_eq_some_iff.1 h2
  injection h4 with h4
  injection h4 with h5 h6
  simp only at h3 h5 h6
  obtain ⟨e1, b1⟩ := rdT_some h1
  obtain ⟨e2, b2⟩ := rdT_some h3
  subst h5
  subst h6
  exact ⟨by rw [e1, e2]; unfold encF; rw [List.append_assoc], b1, b2⟩
theorem rdF_app (p : Bs × Bs) (s : Bs) (h1 : p.1.length < 4294967296) (h2 : p.2.length < 4294967296) : rdF (encF p ++ s) = some (p, s) := by
  unfold rdF encF
  rw [List.append_assoc, rdT_app _ _ h1]
  show ((rdT (encT p.2 ++ s)).bind fun q => some ((p.1, q.1), q.2)) = _
  rw [rdT_app _ _ h2]
  rfl
theorem wrap_back (n : Int) (h1 : -9223372036854775808 ≤ n) (h2 : n ≤ 9223372036854775807) : IntKind.i64.wrap (IntKind.u64.wrap n) = n := by
  rw [IntKind.wrap_u64, IntKind.wrap_i64]; omega
theorem wrap_there (n : Nat) (h : n < 18446744073709551616) : IntKind.u64.wrap (IntKind.i64.wrap n) = n := by
  rw [IntKind.wrap_u64, IntKind.wrap_i64]; omega
theorem u64_nat (n : Int) : ∃ k : Nat, IntKind.u64.wrap n = k ∧ k < 18446744073709551616 := by
  refine ⟨(IntKind.u64.wrap n).toNat, ?_, ?_⟩ <;> rw [IntKind.wrap_u64] <;> omega
theorem rdE_some {s r : Bs} {p : Bs × Int} (h : rdE s = some (p, r)) : s = encE p ++ r ∧ p.1.length < 4294967296 := by
  unfold rdE at h
  obtain ⟨⟨n, r1⟩, h1, h2⟩ := Option.bind_eq_some_iff.1 h
  obtain ⟨⟨b, r2⟩, h3, h4⟩ := Option.bind_eq_some_iff.1 h2
  injection h4 with h4
  injection h4 with h5 h6
  simp only at h3 h5 h6
  obtain ⟨e1, b1⟩ := rdN_some h1
  obtain ⟨e2, b2⟩ := rdT_some h3
  subst h5
  subst h6
  refine ⟨?_, b2⟩
  rw [e1, e2]
  unfold encE le8
  rw [wrap_there n (by simpa using b1), List.append_assoc]
theorem rdE_app (p : Bs × Int) (s : Bs) (h1 : p.1.length < 4294967296) (h2 : -9223372036854775808 ≤ p.2) (h3 : p.2 ≤ 9223372036854775807) : rdE (encE p ++ s) = some (p, s) := by
  obtain ⟨k, hk, hb⟩ := u64_nat p.2
  unfold rdE encE le8
  rw [hk, List.append_assoc, rdN_app 8 k (by simpa using hb)]
  show ((rdT (encT p.1 ++ s)).bind fun q => some ((q.1, IntKind.i64.wrap k), q.2)) = _
  rw [rdT_app _ _ h1, ← hk, wrap_back _ h2 h3]
  rfl
theorem many_some {α : Type} {p : Bs → Option (α × Bs)} {f : α → Bs} {G : α → Prop} (hp : ∀ s x r, p s = some (x, r) → s = f x ++ r ∧ G x) : ∀ (n : Nat) (s : Bs) (l : List α) (r : Bs), many p n s = some (l, r) → s = l.flatMap f ++ r ∧ l.length = n ∧ ∀ x ∈ l, G x
  | 0, s, l, r, h => by
    injection h with h
    injection h with h1 h2
    subst h1; subst h2
    exact ⟨rfl, rfl, fun x hx => by cases hx⟩
  | n + 1, s, l, r, h => by
    obtain ⟨⟨x, r1⟩, h1, h2⟩ := Option.bind_eq_some_iff.1 h
    obtain ⟨⟨t, r2⟩, h3, h4⟩ := Option.bind_eq_some_iff.1 h2
    injection h4 with h4
    injection h4 with h5 h6
    simp only at h3 h5 h6
    obtain ⟨e1, g1⟩ := hp _ _ _ h1
    obtain ⟨e2, e3, g2⟩ := many_some hp n _ _ _ h3
    subst h5
    subst h6
    refine ⟨?_, by simp [e3], fun y hy => ?_⟩
    · rw [e1, e2, List.flatMap_cons, List.append_assoc]
    · rcases List.mem_cons.1 hy with rfl | hy
      · exact g1
      · exact g2 y hy
theorem many_app {α : Type} {p : Bs → Option (α × Bs)} {f : α → Bs} : ∀ (l : List α) (s : Bs), (∀ x ∈ l, ∀ s, p (f x ++ s) = some (x, s)) → many p l.length (l.flatMap f ++ s) = some (l, s)
  | [], s, _ => rfl
  | x :: l, s, h => by
    have e : (x :: l).flatMap f ++ s = f x ++ (l.flatMap f ++ s) := by rw [List.flatMap_cons, List.append_assoc]
    rw [e]
    show ((p (f x ++ (l.flatMap f ++ s))).bind fun q => (many p l.length q.2).bind fun t => some (q.1 :: t.1, t.2)) = _
    rw [h x List.mem_cons_self]
    show ((many p l.length (l.flatMap f ++ s)).bind fun t => some (x :: t.1, t.2)) = _
    rw [many_app l s (fun y hy => h y (List.mem_cons_of_mem _ hy))]
    rfl
theorem rdC_some {α : Type} {p : Bs → Option (α × Bs)} {f : α → Bs} {G : α → Prop} (hp : ∀ s x r, p s = some (x, r) → s = f x ++ r ∧ G x) {s r : Bs} {l : List α} (h : rdC p s = some (l, r)) : s = encC f l ++ r ∧ l.length < 4294967296 ∧ ∀ x ∈ l, G x := by
  unfold rdC at h
  obtain ⟨⟨n, r1⟩, h1, h2⟩ := Option.bind_eq_some_iff.1 h
  obtain ⟨e1, b⟩ := rdN_some h1
  obtain ⟨e2, e3, g⟩ := many_some hp _ _ _ _ h2
  simp only at e2 e3
  subst e3
  exact ⟨by rw [e1, e2]; unfold encC le4; rw [List.append_assoc], by simpa using b, g⟩
theorem rdC_app {α : Type} {p : Bs → Option (α × Bs)} {f : α → Bs} (l : List α) (s : Bs) (hl : l.length < 4294967296) (h : ∀ x ∈ l, ∀ s, p (f x ++ s) = some (x, s)) : rdC p (encC f l ++ s) = some (l, s) := by
  unfold rdC encC le4
  rw [List.append_assoc, rdN_app 4 l.length (by simpa using hl)]
  exact many_app l s h
/- values there and back -/
theorem chk_zero {v : Vl} (h : chk v = 0) : 1 ≤ v.kind ∧ v.kind ≤ 5 ∧ stray v = false ∧ mayBe v = true := by
  unfold chk at h
  split at h
  · exact absurd h (by decide)
  · split at h
    · exact absurd h (by decide)
    · rename_i h1 h2
      refine ⟨by omega, by omega, ?_, ?_⟩
      · cases e : stray v
        · rfl
        · exact absurd (Or.inl e) h2
      · cases e : mayBe v
        · exact absurd (Or.inr e) h2
        · rfl
theorem lOk_all {l : List Bs} (h : lOk l = true) : ∀ x ∈ l, x.length ≤ 1048576 := by
  unfold lOk at h
  rw [Bool.and_eq_true, List.all_eq_true] at h
  exact fun x hx => of_decide_eq_true (h.1 x hx)
theorem okAt_sc {l : EL} (h : ordB l = true) : ∀ e ∈ l, -9007199254740992 ≤ e.2 ∧ e.2 ≤ 9007199254740992 := by
  intro e he
  obtain ⟨k, hk, rfl⟩ := List.getElem_of_mem he
  unfold ordB at h
  have := List.all_eq_true.1 h k (List.mem_range.2 hk)
  unfold okAt at this
  rw [List.getElem?_eq_getElem hk] at this
  simp only [Bool.and_eq_true] at this
  have h1 := this.1
  unfold scOk at h1
  simpa using h1
theorem nil_of {α : Type} [BEq α] [LawfulBEq α] {l : List α} (h : (l != []) = false) : l = [] := by simpa using h
theorem stray_k {v : Vl} (h : stray v = false) : (v.kind ≠ 1 → v.text = []) ∧ (v.kind ≠ 2 → v.kind ≠ 4 → v.list = []) ∧ (v.kind ≠ 3 → v.fields = []) ∧ (v.kind ≠ 5 → v.ranked = []) := by
  unfold stray at h
  simp only [Bool.or_eq_false_iff] at h
  obtain ⟨⟨⟨h1, h2⟩, h3⟩, h4⟩ := h
  refine ⟨fun k => ?_, fun k k' => ?_, fun k => ?_, fun k => ?_⟩
  · rw [Bool.and_eq_false_iff] at h1
    exact h1.elim nil_of (fun q => absurd (by simpa using q) k)
  · rw [Bool.and_eq_false_iff, Bool.and_eq_false_iff] at h2
    rcases h2 with (q | q) | q
    · exact nil_of q
    · exact absurd (by simpa using q) k
    · exact absurd (by simpa using q) k'
  · rw [Bool.and_eq_false_iff] at h3
    exact h3.elim nil_of (fun q => absurd (by simpa using q) k)
  · rw [Bool.and_eq_false_iff] at h4
    exact h4.elim nil_of (fun q => absurd (by simpa using q) k)
def small (v : Vl) : Prop := v.list.length < 4294967296 ∧ v.fields.length < 4294967296 ∧ v.ranked.length < 4294967296
theorem kind5 {v : Vl} (h1 : 1 ≤ v.kind) (h2 : v.kind ≤ 5) : v.kind = 1 ∨ v.kind = 2 ∨ v.kind = 3 ∨ v.kind = 4 ∨ v.kind = 5 := by omega
theorem kb (k : Int) (n : Nat) (h : k = n) (hn : n < 256) : leN [UInt8.ofNat k.toNat] = n := by
  subst h
  show (UInt8.ofNat n).toNat + 256 * 0 = n
  simp
  omega
theorem hash_len {f : FL} (h : hashOk f = true) : ∀ p ∈ f, p.1.length < 4294967296 ∧ p.2.length < 4294967296 := by
  unfold hashOk setOk at h
  rw [Bool.and_eq_true, Bool.and_eq_true] at h
  intro p hp
  have h1 := lOk_all h.2.1 p.1 (List.mem_map.2 ⟨p, hp, rfl⟩)
  have h2 := of_decide_eq_true (List.all_eq_true.1 h.1 p hp)
  exact ⟨by omega, by omega⟩
theorem rank_len {l : EL} (h : rankOk l = true) : ∀ p ∈ l, p.1.length < 4294967296 ∧ -9223372036854775808 ≤ p.2 ∧ p.2 ≤ 9223372036854775807 := by
  unfold rankOk at h
  rw [Bool.and_eq_true, Bool.and_eq_true] at h
  intro p hp
  have h1 := lOk_all h.1.2 p.1 (List.mem_map.2 ⟨p, hp, rfl⟩)
  have h2 := okAt_sc h.1.1 p hp
  exact ⟨by omega, by omega, by omega⟩
theorem rdN1 (c : UInt8) (s : Bs) : rdN 1 (c :: s) = some (c.toNat, s) := by
  unfold rdN
  rw [if_neg (by simp)]
  simp [leN]
theorem val_app (v : Vl) (s : Bs) (h : chk v = 0) (hs : small v) : valS (enc v ++ s) = some (v, s) := by
  obtain ⟨k1, k2, hst, hm⟩ := chk_zero h
  obtain ⟨s1, s2, s3, s4⟩ := stray_k hst
  obtain ⟨b1, b2, b3⟩ := hs
  unfold valS enc
  rw [List.cons_append, rdN1]
  show bodyS (UInt8.ofNat v.kind.toNat).toNat (encB v ++ s) = _
  unfold mayBe at hm
  obtain ⟨vk, vt, vl, vf, vr⟩ := v
  simp only at k1 k2 s1 s2 s3 s4 b1 b2 b3 hm ⊢
  rcases (show vk = 1 ∨ vk = 2 ∨ vk = 3 ∨ vk = 4 ∨ vk = 5 by omega) with rfl | rfl | rfl | rfl | rfl
  · obtain rfl := s2 (by decide) (by decide)
    obtain rfl := s3 (by decide)
    obtain rfl := s4 (by decide)
    have hm' : tOk vt = true := by simpa using hm
    have hl : vt.length ≤ 1048576 := of_decide_eq_true hm'
    show ((rdT (encT vt ++ s)).bind _) = _
    rw [rdT_app vt s (by omega)]
    rfl
  · obtain rfl := s1 (by decide)
    obtain rfl := s3 (by decide)
    obtain rfl := s4 (by decide)
    have hm' : lOk vl = true := by simpa using hm
    show ((rdC rdT (encC encT vl ++ s)).bind _) = _
    rw [rdC_app vl s b1 (fun x hx t => rdT_app x t (by have := lOk_all hm' x hx; omega))]
    rfl
  · obtain rfl := s1 (by decide)
    obtain rfl := s2 (by decide) (by decide)
    obtain rfl := s4 (by decide)
    have hm' : hashOk vf = true := by simpa using hm
    show ((rdC rdF (encC encF vf ++ s)).bind _) = _
    rw [rdC_app vf s b2 (fun x hx t => rdF_app x t (hash_len hm' x hx).1 (hash_len hm' x hx).2)]
    rfl
  · obtain rfl := s1 (by decide)
    obtain rfl := s3 (by decide)
    obtain rfl := s4 (by decide)
    have hm' : setOk vl = true := by simpa using hm
    have hm2 : lOk vl = true := by unfold setOk at hm'; rw [Bool.and_eq_true] at hm'; exact hm'.1
    show ((rdC rdT (encC encT vl ++ s)).bind _) = _
    rw [rdC_app vl s b1 (fun x hx t => rdT_app x t (by have := lOk_all hm2 x hx; omega))]
    rfl
  · obtain rfl := s1 (by decide)
    obtain rfl := s2 (by decide) (by decide)
    obtain rfl := s3 (by decide)
    have hm' : rankOk vr = true := by simpa using hm
    show ((rdC rdE (encC encE vr ++ s)).bind _) = _
    rw [rdC_app vr s b3 (fun x hx t => rdE_app x t (rank_len hm' x hx).1 (rank_len hm' x hx).2.1 (rank_len hm' x hx).2.2)]
    rfl
theorem dec_app (v : Vl) (s : Bs) (h : chk v = 0) (hs : small v) : decS (enc v ++ s) = some (v, (enc v).length) := by
  unfold decS
  rw [val_app v s h hs]
  show (if chk v = 0 then some (v, (enc v ++ s).length - s.length) else none) = _
  rw [if_pos h, List.length_append, Nat.add_sub_cancel]
theorem val_some {s r : Bs} {v : Vl} (h : valS s = some (v, r)) : s = enc v ++ r ∧ small v := by
  unfold valS at h
  obtain ⟨⟨n, r1⟩, h1, h2⟩ := Option.bind_eq_some_iff.1 h
  have hs : s = UInt8.ofNat n :: r1 ∧ n < 256 := by
    cases s with
    | nil => unfold rdN at h1; simp at h1
    | cons c t =>
      rw [rdN1] at h1
      injection h1 with h1
      injection h1 with h3 h4
      subst h3; subst h4
      exact ⟨by simp, c.toNat_lt⟩
  obtain ⟨rfl, hn⟩ := hs
  unfold bodyS at h2
  simp only at h2
  split at h2
  · rename_i e
    subst e
    obtain ⟨⟨t, r2⟩, h3, h4⟩ := Option.bind_eq_some_iff.1 h2
    injection h4 with h4
    injection h4 with h5 h6
    simp only at h6
    subst h5; subst h6
    obtain ⟨e, b⟩ := rdT_some h3
    refine ⟨?_, by unfold small; simp⟩
    rw [e]; rfl
  · split at h2
    · rename_i e
      obtain ⟨⟨t, r2⟩, h3, h4⟩ := Option.bind_eq_some_iff.1 h2
      injection h4 with h4
      injection h4 with h5 h6
      simp only at h6
      subst h5; subst h6
      obtain ⟨e2, b, _⟩ := rdC_some (G := fun _ => True) (fun s x r h => ⟨(rdT_some h).1, trivial⟩) h3
      refine ⟨?_, by unfold small; simpa using b⟩
      rw [e2]
      rcases e with rfl | rfl <;> rfl
    · split at h2
      · rename_i e
        subst e
        obtain ⟨⟨t, r2⟩, h3, h4⟩ := Option.bind_eq_some_iff.1 h2
        injection h4 with h4
        injection h4 with h5 h6
        simp only at h6
        subst h5; subst h6
        obtain ⟨e2, b, _⟩ := rdC_some (G := fun _ => True) (fun s x r h => ⟨(rdF_some h).1, trivial⟩) h3
        refine ⟨?_, by unfold small; simpa using b⟩
        rw [e2]; rfl
      · split at h2
        · rename_i e
          subst e
          obtain ⟨⟨t, r2⟩, h3, h4⟩ := Option.bind_eq_some_iff.1 h2
          injection h4 with h4
          injection h4 with h5 h6
          simp only at h6
          subst h5; subst h6
          obtain ⟨e2, b, _⟩ := rdC_some (G := fun _ => True) (fun s x r h => ⟨(rdE_some h).1, trivial⟩) h3
          refine ⟨?_, by unfold small; simpa using b⟩
          rw [e2]; rfl
        · cases h2
theorem dec_some {s : Bs} {v : Vl} {n : Nat} (h : decS s = some (v, n)) : chk v = 0 ∧ small v ∧ n ≤ s.length ∧ enc v = s.take n ∧ n = (enc v).length := by
  unfold decS at h
  obtain ⟨⟨v', r⟩, h1, h2⟩ := Option.bind_eq_some_iff.1 h
  simp only at h2
  split at h2
  · rename_i e
    injection h2 with h2
    injection h2 with h3 h4
    subst h3
    obtain ⟨es, b⟩ := val_some h1
    have hl : s.length = (enc v').length + r.length := by rw [es, List.length_append]
    have hn : n = (enc v').length := by omega
    refine ⟨e, b, by omega, ?_, hn⟩
    rw [hn, es, List.take_left' rfl]
  · cases h2
theorem enc_pos (v : Vl) : 0 < (enc v).length := by unfold enc; simp
/- bytes tell values apart -/
theorem enc_begin {a b : Vl} (ha : chk a = 0) (hb : chk b = 0) (sa : small a) (sb : small b) {r : Bs} (h : enc b = enc a ++ r) : a = b ∧ r = [] := by
  have h1 := dec_app a r ha sa
  have h2 := dec_app b [] hb sb
  rw [List.append_nil, h, h1] at h2
  injection h2 with h2
  injection h2 with h3 h4
  refine ⟨h3, ?_⟩
  rw [List.length_append] at h4
  exact List.length_eq_zero_iff.1 (by omega)
theorem enc_inj {a b : Vl} (ha : chk a = 0) (hb : chk b = 0) (sa : small a) (sb : small b) (h : enc a = enc b) : a = b := (enc_begin ha hb sa sb (r := []) (by rw [h, List.append_nil])).1
theorem dec_cut {a : Vl} (ha : chk a = 0) (sa : small a) (n : Nat) (hn : n < (enc a).length) : decS ((enc a).take n) = none := by
  cases e : decS ((enc a).take n) with
  | none => rfl
  | some q =>
    obtain ⟨v, m⟩ := q
    obtain ⟨h1, h2, h3, h4, h5⟩ := dec_some e
    rw [List.take_take, List.length_take] at *
    have h6 : enc a = enc v ++ (enc a).drop (min m n) := by rw [h4, List.take_append_drop]
    obtain ⟨rfl, h7⟩ := enc_begin h1 ha h2 sa h6
    omega
/- two values that are the same -/
def sm (x y : Vl) : Bool := x.kind == y.kind && decide (x.text = y.text) && decide (x.list = y.list) && decide (x.fields = y.fields) && decide (x.ranked = y.ranked)
theorem sm_iff (x y : Vl) : sm x y = true ↔ x = y := by
  obtain ⟨a, b, c, d, e⟩ := x
  obtain ⟨a', b', c', d', e'⟩ := y
  simp [sm, and_assoc]
theorem sm_self (x : Vl) : sm x x = true := (sm_iff x x).2 rfl
end Go.Proofs.Ytdcnkdkhanmklaa.ValueMath
end
section
namespace Go.Proofs.Ytdcnkdkhanmklaa.ReadMath
open Go.Proofs.Ytdcnkdkhanmklaa.SetMath
open Go.Proofs.Ytdcnkdkhanmklaa.BytesMath
open Go.Proofs.Ytdcnkdkhanmklaa.FixMath
open Go.Proofs.Ytdcnkdkhanmklaa.ValueMath
set_option linter.unusedVariables false
abbrev RS := Bs × Bool
def tkS (n : Nat) (s : RS) : Bs × RS := if s.2 = true ∨ s.1.length < n then ([], s.1, true) else (s.1.take n, s.1.drop n, false)
def unN (t : Bs) : Nat := if 1 ≤ t.length ∧ t.length ≤ 8 then leN t else 0
def nbS (w : Nat) (s : RS) : Nat × RS := (unN (tkS w s).1, (tkS w s).2)
def txS (s : RS) : Bs × RS := tkS (nbS 4 s).1 (nbS 4 s).2
def fdS (s : RS) : (Bs × Bs) × RS := (((txS s).1, (txS (txS s).2).1), (txS (txS s).2).2)
def scS (s : RS) : (Bs × Int) × RS := (((txS (nbS 8 s).2).1, IntKind.i64.wrap (nbS 8 s).1), (txS (nbS 8 s).2).2)
theorem tk_bad (n : Nat) (r : Bs) : tkS n (r, true) = ([], r, true) := by unfold tkS; rw [if_pos (Or.inl rfl)]
theorem tk_no {n : Nat} {r : Bs} (f : Bool) (h : r.length < n) : tkS n (r, f) = ([], r, true) := by unfold tkS; rw [if_pos (Or.inr h)]
theorem tk_ok {n : Nat} {r : Bs} (h : n ≤ r.length) : tkS n (r, false) = (r.take n, r.drop n, false) := by
  unfold tkS
  rw [if_neg (by rintro (h1 | h1); cases h1; exact absurd h (by simpa using h1))]
theorem nb_bad (w : Nat) (r : Bs) : nbS w (r, true) = (0, r, true) := by unfold nbS; rw [tk_bad]; rfl
theorem nb_some {w : Nat} {r r' : Bs} {n : Nat} (h1 : 1 ≤ w) (h8 : w ≤ 8) (h : rdN w r = some (n, r')) : nbS w (r, false) = (n, r', false) := by
  unfold rdN at h
  split at h
  · cases h
  · injection h with h
    injection h with e1 e2
    unfold nbS
    rw [tk_ok (by omega)]
    simp only [unN]
    rw [if_pos (by rw [List.length_take]; omega), e1, e2]
theorem nb_none {w : Nat} {r : Bs} (f : Bool) (h : rdN w r = none) : nbS w (r, f) = (0, r, true) := by
  unfold rdN at h
  split at h
  · unfold nbS
    rw [tk_no f (by assumption)]
    rfl
  · cases h
theorem tx_bad (r : Bs) : txS (r, true) = ([], r, true) := by unfold txS; rw [nb_bad]; exact tk_bad 0 r
theorem tx_some {r r' t : Bs} (h : rdT r = some (t, r')) : txS (r, false) = (t, r', false) := by
  unfold rdT at h
  obtain ⟨⟨n, r1⟩, h1, h2⟩ := Option.bind_eq_some_iff.1 h
  unfold txS
  rw [nb_some (by decide) (by decide) h1]
  simp only at h2 ⊢
  unfold rdTk at h2
  split at h2
  · cases h2
  · injection h2 with h2
    injection h2 with e1 e2
    rw [tk_ok (by omega), e1, e2]
theorem tx_none {r : Bs} (h : rdT r = none) : ∃ r', txS (r, false) = ([], r', true) := by
  unfold rdT at h
  unfold txS
  cases e : rdN 4 r with
  | none => rw [nb_none _ e]; exact ⟨r, tk_bad 0 r⟩
  | some q =>
    obtain ⟨n, r1⟩ := q
    rw [e] at h
    rw [nb_some (by decide) (by decide) e]
    change rdTk n r1 = none at h
    unfold rdTk at h
    split at h
    · exact ⟨r1, tk_no false (by assumption)⟩
    · cases h
theorem fd_some {r r' : Bs} {p : Bs × Bs} (h : rdF r = some (p, r')) : fdS (r, false) = (p, r', false) := by
  unfold rdF at h
  obtain ⟨⟨a, r1⟩, h1, h2⟩ := Option.bind_eq_some_iff.1 h
  obtain ⟨⟨b, r2⟩, h3, h4⟩ := Option.bind_eq_some_iff.1 h2
  injection h4 with h4
  injection h4 with h5 h6
  simp only at h3 h5 h6
  unfold fdS
  rw [tx_some h1]
  simp only
  rw [tx_some h3, ← h5, ← h6]
theorem fd_none {r : Bs} (h : rdF r = none) : ∃ p r', fdS (r, false) = (p, r', true) := by
  unfold rdF at h
  unfold fdS
  cases e : rdT r with
  | none =>
    obtain ⟨r1, h1⟩ := tx_none e
    rw [h1]
    simp only
    rw [tx_bad]
    exact ⟨_, _, rfl⟩
  | some q =>
    obtain ⟨a, r1⟩ := q
    rw [e] at h
    rw [tx_some e]
    simp only
    cases e2 : rdT r1 with
    | none =>
      obtain ⟨r2, h2⟩ := tx_none e2
      rw [h2]
      exact ⟨_, _, rfl⟩
    | some q2 =>
      change ((rdT r1).bind _) = none at h
      rw [e2] at h
      cases h
theorem sc_some {r r' : Bs} {p : Bs × Int} (h : rdE r = some (p, r')) : scS (r, false) = (p, r', false) := by
  unfold rdE at h
  obtain ⟨⟨a, r1⟩, h1, h2⟩ := Option.bind_eq_some_iff.1 h
  obtain ⟨⟨b, r2⟩, h3, h4⟩ := Option.bind_eq_some_iff.1 h2
  injection h4 with h4
  injection h4 with h5 h6
  simp only at h3 h5 h6
  unfold scS
  rw [nb_some (by decide) (by decide) h1]
  simp only
  rw [tx_some h3, ← h5, ← h6]
theorem sc_none {r : Bs} (h : rdE r = none) : ∃ p r', scS (r, false) = (p, r', true) := by
  unfold rdE at h
  unfold scS
  cases e : rdN 8 r with
  | none =>
    rw [nb_none _ e]
    simp only
    rw [tx_bad]
    exact ⟨_, _, rfl⟩
  | some q =>
    obtain ⟨a, r1⟩ := q
    rw [e] at h
    rw [nb_some (by decide) (by decide) e]
    simp only
    cases e2 : rdT r1 with
    | none =>
      obtain ⟨r2, h2⟩ := tx_none e2
      rw [h2]
      exact ⟨_, _, rfl⟩
    | some q2 =>
      change ((rdT r1).bind _) = none at h
      rw [e2] at h
      cases h
/- what is left is an end of what there was -/
theorem tk_le (n : Nat) (s : RS) : (tkS n s).2.1.length ≤ s.1.length ∧ (tkS n s).1.length ≤ s.1.length := by
  unfold tkS
  split
  · simp
  · simp; omega
theorem nb_le (w : Nat) (s : RS) : (nbS w s).2.1.length ≤ s.1.length := (tk_le w s).1
theorem tx_le (s : RS) : (txS s).2.1.length ≤ s.1.length ∧ (txS s).1.length ≤ s.1.length := by
  have h1 := tk_le (nbS 4 s).1 (nbS 4 s).2
  have h2 := nb_le 4 s
  unfold txS
  omega
theorem nb_lt (w : Nat) (s : RS) (hw : w ≤ 8) : (nbS w s).1 < 256 ^ w := by
  unfold nbS unN
  have h1 : (tkS w s).1.length ≤ w := by
    unfold tkS
    split
    · simp
    · simp; omega
  have h2 := leN_lt (tkS w s).1
  have h3 : 256 ^ (tkS w s).1.length ≤ 256 ^ w := Nat.pow_le_pow_right (by omega) h1
  have h4 : 0 < 256 ^ w := Nat.pow_pos (by omega)
  simp only
  split
  · omega
  · exact h4
end Go.Proofs.Ytdcnkdkhanmklaa.ReadMath
end
