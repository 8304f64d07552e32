/- What a pattern means, in plain terms over lists of bytes: classes, pieces, matching; and the same by places in a pattern and a text. The contracts of glob's literal, classItem, classTakes and takesByte, and of the document's own class. The contract of glob's takesByte. -/
import Derived.WalkKit
import Derived.Below
import Derived.Test.YtminfpkigenahaaGreatDoorRows
import Derived.BigQuiet
import Derived.Deep.LoopGhost
section
namespace Go.Proofs.YtminfpkigenahaaGreatDoor.GMath
set_option linter.unusedVariables false
set_option linter.unusedSimpArgs false

/-! ### classes -/
def clen : List UInt8 → Nat
  | [] => 0
  | a :: l =>
    if a.toNat = 92 ∧ l ≠ [] then 2 + clen (l.drop 1)
    else if a.toNat = 93 then 1
    else if 2 ≤ l.length ∧ (l.headD 0).toNat = 45 then 3 + clen (l.drop 2)
    else 1 + clen l
  termination_by l => l.length
  decreasing_by all_goals (simp only [List.length_drop, List.length_cons]; omega)

def cnam (c : Nat) : List UInt8 → Bool
  | [] => false
  | a :: l =>
    if a.toNat = 92 ∧ l ≠ [] then ((l.headD 0).toNat == c) || cnam c (l.drop 1)
    else if a.toNat = 93 then false
    else if 2 ≤ l.length ∧ (l.headD 0).toNat = 45 then (decide (min a.toNat ((l.drop 1).headD 0).toNat ≤ c) && decide (c ≤ max a.toNat ((l.drop 1).headD 0).toNat)) || cnam c (l.drop 2)
    else (a.toNat == c) || cnam c l
  termination_by l => l.length
  decreasing_by all_goals (simp only [List.length_drop, List.length_cons]; omega)

theorem clen_le (n : Nat) : ∀ l : List UInt8, l.length ≤ n → clen l ≤ l.length := by
  induction n with
  | zero => intro l h; cases l with | nil => simp [clen] | cons a l => simp at h
  | succ n ih =>
    intro l h
    cases l with
    | nil => simp [clen]
    | cons a l =>
      rw [clen]
      have hl : l.length ≤ n := by simp at h; omega
      split
      · rename_i hc
        have : 1 ≤ l.length := by cases l with | nil => simp at hc | cons _ _ => simp
        have := ih (l.drop 1) (by simp; omega)
        simp at this ⊢; omega
      · split
        · simp
        · split
          · have := ih (l.drop 2) (by simp; omega)
            simp at this ⊢; omega
          · have := ih l hl
            simp; omega

/-! ### pieces -/
def hat (l : List UInt8) : Nat := if (l.headD 0).toNat = 94 then 1 else 0
def plen : List UInt8 → Nat
  | [] => 0
  | a :: l =>
    if a.toNat = 63 then 1
    else if a.toNat = 91 then 1 + hat l + clen (l.drop (hat l))
    else if a.toNat = 92 ∧ l ≠ [] then 2
    else 1
def ptak (c : Nat) : List UInt8 → Bool
  | [] => false
  | a :: l =>
    if a.toNat = 63 then true
    else if a.toNat = 91 then (cnam c (l.drop (hat l)) != (hat l == 1))
    else if a.toNat = 92 ∧ l ≠ [] then ((l.headD 0).toNat == c)
    else (a.toNat == c)
theorem hat_le (l : List UInt8) : hat l ≤ l.length := by
  unfold hat
  cases l with
  | nil => simp
  | cons a l => split <;> simp
theorem plen_le (l : List UInt8) : plen l ≤ l.length := by
  cases l with
  | nil => simp [plen]
  | cons a l =>
    simp only [plen]
    split
    · simp
    · split
      · have := clen_le _ (l.drop (hat l)) (Nat.le_refl _)
        have := hat_le l
        simp at *; omega
      · split
        · rename_i h
          have : 1 ≤ l.length := by cases l with | nil => simp at h | cons _ _ => simp
          simp; omega
        · simp
theorem plen_pos {l : List UInt8} (h : l ≠ []) : 1 ≤ plen l := by
  cases l with
  | nil => simp at h
  | cons a l =>
    simp only [plen]
    split
    · simp
    · split
      · omega
      · split <;> omega

/-! ### matching -/
def M : List UInt8 → List UInt8 → Bool
  | [], s => s.isEmpty
  | a :: l, s =>
    if a.toNat = 42 then M l s || (match s with | [] => false | _ :: s' => M (a :: l) s')
    else match s with
      | [] => false
      | b :: s' => ptak b.toNat (a :: l) && M ((a :: l).drop (plen (a :: l))) s'
  termination_by p s => p.length + s.length
  decreasing_by all_goals (simp only [List.length_drop, List.length_cons]; omega)

theorem M_nil (s : List UInt8) : M [] s = s.isEmpty := by rw [M]
theorem M_star_cons {a : UInt8} (h : a.toNat = 42) (l : List UInt8) (b : UInt8) (s : List UInt8) : M (a :: l) (b :: s) = (M l (b :: s) || M (a :: l) s) := by rw [M, if_pos h]
theorem M_star_nil {a : UInt8} (h : a.toNat = 42) (l : List UInt8) : M (a :: l) [] = M l [] := by rw [M, if_pos h]; simp
theorem M_byte {a : UInt8} (h : a.toNat ≠ 42) (l : List UInt8) (b : UInt8) (s : List UInt8) : M (a :: l) (b :: s) = (ptak b.toNat (a :: l) && M ((a :: l).drop (plen (a :: l))) s) := by rw [M, if_neg h]
theorem M_none {a : UInt8} (h : a.toNat ≠ 42) (l : List UInt8) : M (a :: l) [] = false := by rw [M, if_neg h]

/-! ### by places -/
def bs (p : ByteArray) : List UInt8 := p.data.toList
theorem bs_len (p : ByteArray) : (bs p).length = p.size := Array.length_toList
theorem drop_cons (p : ByteArray) (i : Nat) (h : i < p.size) : (bs p).drop i = p[i] :: (bs p).drop (i + 1) := by
  rw [List.drop_eq_getElem_cons (by rw [bs_len]; exact h)]; rfl
theorem drop_end (p : ByteArray) (i : Nat) (h : p.size ≤ i) : (bs p).drop i = [] := List.drop_eq_nil_of_le (by rw [bs_len]; exact h)
theorem drop_ne (p : ByteArray) (i : Nat) : (bs p).drop i ≠ [] ↔ i < p.size := by
  rw [Ne, List.drop_eq_nil_iff, bs_len]; omega
theorem drop_hd (p : ByteArray) (i : Nat) (h : i < p.size) : ((bs p).drop i).headD 0 = p[i] := by rw [drop_cons p i h]; rfl
theorem drop_len (p : ByteArray) (i : Nat) : ((bs p).drop i).length = p.size - i := by rw [List.length_drop, bs_len]

def CL (p : ByteArray) (i : Nat) : Nat := i + clen ((bs p).drop i)
def CN (p : ByteArray) (c i : Nat) : Bool := cnam c ((bs p).drop i)
theorem CL_end {p : ByteArray} {i : Nat} (h : p.size ≤ i) : CL p i = i := by simp [CL, drop_end p i h, clen]
theorem CN_end {p : ByteArray} {i : Nat} (c : Nat) (h : p.size ≤ i) : CN p c i = false := by simp [CN, drop_end p i h, cnam]
theorem CL_esc {p : ByteArray} {i : Nat} (h : i + 1 < p.size) (e : p[i].toNat = 92) : CL p i = CL p (i + 2) := by
  unfold CL
  rw [drop_cons p i (by omega), clen, if_pos ⟨e, (drop_ne p _).2 h⟩, List.drop_drop]
  show i + (2 + clen ((bs p).drop (i + 2))) = i + 2 + clen ((bs p).drop (i + 2))
  omega
theorem CN_esc {p : ByteArray} {i : Nat} (c : Nat) (h : i + 1 < p.size) (e : p[i].toNat = 92) : CN p c i = ((p[i + 1].toNat == c) || CN p c (i + 2)) := by
  unfold CN
  rw [drop_cons p i (by omega), cnam, if_pos ⟨e, (drop_ne p _).2 h⟩, List.drop_drop, drop_hd p _ h]
theorem CL_shut {p : ByteArray} {i : Nat} (h : i < p.size) (e : p[i].toNat = 93) : CL p i = i + 1 := by
  unfold CL
  rw [drop_cons p i h, clen, if_neg (by omega), if_pos e]
theorem CN_shut {p : ByteArray} {i : Nat} (c : Nat) (h : i < p.size) (e : p[i].toNat = 93) : CN p c i = false := by
  unfold CN
  rw [drop_cons p i h, cnam, if_neg (by omega), if_pos e]
theorem CL_range {p : ByteArray} {i : Nat} (h : i + 2 < p.size) (e1 : p[i].toNat ≠ 92) (e2 : p[i].toNat ≠ 93) (e3 : p[i + 1].toNat = 45) : CL p i = CL p (i + 3) := by
  unfold CL
  rw [drop_cons p i (by omega), clen, if_neg (fun x => e1 x.1), if_neg e2, if_pos ⟨by rw [drop_len]; omega, by rw [drop_hd p _ (by omega)]; exact e3⟩, List.drop_drop]
  show i + (3 + clen ((bs p).drop (i + 3))) = i + 3 + clen ((bs p).drop (i + 3))
  omega
theorem CN_range {p : ByteArray} {i : Nat} (c : Nat) (h : i + 2 < p.size) (e1 : p[i].toNat ≠ 92) (e2 : p[i].toNat ≠ 93) (e3 : p[i + 1].toNat = 45) :
    CN p c i = ((decide (min p[i].toNat p[i + 2].toNat ≤ c) && decide (c ≤ max p[i].toNat p[i + 2].toNat)) || CN p c (i + 3)) := by
  unfold CN
  rw [drop_cons p i (by omega), cnam, if_neg (fun x => e1 x.1), if_neg e2, if_pos ⟨by rw [drop_len]; omega, by rw [drop_hd p _ (by omega)]; exact e3⟩, List.drop_drop, List.drop_drop, drop_hd p _ (by omega)]
theorem CL_one {p : ByteArray} {i : Nat} (h : i < p.size) (e1 : ¬ (p[i].toNat = 92 ∧ i + 1 < p.size)) (e2 : p[i].toNat ≠ 93) (e3 : ∀ h : i + 2 < p.size, p[i + 1].toNat ≠ 45) : CL p i = CL p (i + 1) := by
  unfold CL
  rw [drop_cons p i h, clen, if_neg (fun x => e1 ⟨x.1, (drop_ne p _).1 x.2⟩), if_neg e2, if_neg]
  · omega
  · rintro ⟨x, y⟩
    rw [drop_len] at x
    rw [drop_hd p _ (by omega)] at y
    exact e3 (by omega) y
theorem CN_one {p : ByteArray} {i : Nat} (c : Nat) (h : i < p.size) (e1 : ¬ (p[i].toNat = 92 ∧ i + 1 < p.size)) (e2 : p[i].toNat ≠ 93) (e3 : ∀ h : i + 2 < p.size, p[i + 1].toNat ≠ 45) : CN p c i = ((p[i].toNat == c) || CN p c (i + 1)) := by
  unfold CN
  rw [drop_cons p i h, cnam, if_neg (fun x => e1 ⟨x.1, (drop_ne p _).1 x.2⟩), if_neg e2, if_neg]
  rintro ⟨x, y⟩
  rw [drop_len] at x
  rw [drop_hd p _ (by omega)] at y
  exact e3 (by omega) y
theorem CL_ge (p : ByteArray) (i : Nat) : i ≤ CL p i := Nat.le_add_right _ _
theorem CL_le {p : ByteArray} {i : Nat} (h : i ≤ p.size) : CL p i ≤ p.size := by
  have := clen_le _ ((bs p).drop i) (Nat.le_refl _)
  rw [drop_len] at this
  unfold CL; omega

def HT (p : ByteArray) (i : Nat) : Nat := hat ((bs p).drop i)
theorem HT_yes {p : ByteArray} {i : Nat} (h : i < p.size) (e : p[i].toNat = 94) : HT p i = 1 := by
  unfold HT hat; rw [drop_hd p i h, if_pos e]
theorem HT_no {p : ByteArray} {i : Nat} (h : i < p.size) (e : p[i].toNat ≠ 94) : HT p i = 0 := by
  unfold HT hat; rw [drop_hd p i h, if_neg e]
theorem HT_end {p : ByteArray} {i : Nat} (h : p.size ≤ i) : HT p i = 0 := by
  unfold HT hat; rw [drop_end p i h]; rfl
/-- Behind a class whose items (and the hat) begin at i; and whether it means c. -/
def KE (p : ByteArray) (i : Nat) : Nat := CL p (i + HT p i)
def KT (p : ByteArray) (c i : Nat) : Bool := CN p c (i + HT p i) != (HT p i == 1)
theorem KE_le {p : ByteArray} {i : Nat} (h : i ≤ p.size) : KE p i ≤ p.size := by
  have := hat_le ((bs p).drop i)
  rw [drop_len] at this
  exact CL_le (by unfold HT; omega)
theorem KE_ge (p : ByteArray) (i : Nat) : i ≤ KE p i := Nat.le_trans (Nat.le_add_right _ _) (CL_ge p _)

def PN (p : ByteArray) (i : Nat) : Nat := i + plen ((bs p).drop i)
def PT (p : ByteArray) (c i : Nat) : Bool := ptak c ((bs p).drop i)
theorem PN_le {p : ByteArray} {i : Nat} (h : i ≤ p.size) : PN p i ≤ p.size := by
  have := plen_le ((bs p).drop i)
  rw [drop_len] at this
  unfold PN; omega
theorem PN_gt {p : ByteArray} {i : Nat} (h : i < p.size) : i < PN p i := by
  have := plen_pos ((drop_ne p i).2 h)
  unfold PN; omega
theorem PN_mark {p : ByteArray} {i : Nat} (h : i < p.size) (e : p[i].toNat = 63) : PN p i = i + 1 := by
  unfold PN; rw [drop_cons p i h, plen, if_pos e]
theorem PT_mark {p : ByteArray} {i : Nat} (c : Nat) (h : i < p.size) (e : p[i].toNat = 63) : PT p c i = true := by
  unfold PT; rw [drop_cons p i h, ptak, if_pos e]
theorem PN_class {p : ByteArray} {i : Nat} (h : i < p.size) (e : p[i].toNat = 91) : PN p i = KE p (i + 1) := by
  unfold PN KE CL HT; rw [drop_cons p i h, plen, if_neg (by omega), if_pos e, List.drop_drop]; omega
theorem PT_class {p : ByteArray} {i : Nat} (c : Nat) (h : i < p.size) (e : p[i].toNat = 91) : PT p c i = KT p c (i + 1) := by
  unfold PT KT CN HT; rw [drop_cons p i h, ptak, if_neg (by omega), if_pos e, List.drop_drop]
theorem PN_esc {p : ByteArray} {i : Nat} (h : i + 1 < p.size) (e : p[i].toNat = 92) : PN p i = i + 2 := by
  unfold PN; rw [drop_cons p i (by omega), plen, if_neg (by omega), if_neg (by omega), if_pos ⟨e, (drop_ne p _).2 h⟩]
theorem PT_esc {p : ByteArray} {i : Nat} (c : Nat) (h : i + 1 < p.size) (e : p[i].toNat = 92) : PT p c i = (p[i + 1].toNat == c) := by
  unfold PT; rw [drop_cons p i (by omega), ptak, if_neg (by omega), if_neg (by omega), if_pos ⟨e, (drop_ne p _).2 h⟩, drop_hd p _ h]
theorem PN_else {p : ByteArray} {i : Nat} (h : i < p.size) (e1 : p[i].toNat ≠ 63) (e2 : p[i].toNat ≠ 91) (e3 : ¬ (p[i].toNat = 92 ∧ i + 1 < p.size)) : PN p i = i + 1 := by
  unfold PN; rw [drop_cons p i h, plen, if_neg e1, if_neg e2, if_neg (fun x => e3 ⟨x.1, (drop_ne p _).1 x.2⟩)]
theorem PT_else {p : ByteArray} {i : Nat} (c : Nat) (h : i < p.size) (e1 : p[i].toNat ≠ 63) (e2 : p[i].toNat ≠ 91) (e3 : ¬ (p[i].toNat = 92 ∧ i + 1 < p.size)) : PT p c i = (p[i].toNat == c) := by
  unfold PT; rw [drop_cons p i h, ptak, if_neg e1, if_neg e2, if_neg (fun x => e3 ⟨x.1, (drop_ne p _).1 x.2⟩)]

def MM (p s : ByteArray) (i k : Nat) : Bool := M ((bs p).drop i) ((bs s).drop k)
theorem MM_end {p s : ByteArray} {i k : Nat} (h : p.size ≤ i) : MM p s i k = true ↔ s.size ≤ k := by
  unfold MM; rw [drop_end p i h, M_nil, List.isEmpty_iff, List.drop_eq_nil_iff, bs_len]
theorem MM_star {p s : ByteArray} {i k : Nat} (h : i < p.size) (e : p[i].toNat = 42) (hk : k < s.size) : MM p s i k = (MM p s (i + 1) k || MM p s i (k + 1)) := by
  unfold MM; rw [drop_cons p i h, drop_cons s k hk, M_star_cons e]
theorem MM_star_end {p s : ByteArray} {i k : Nat} (h : i < p.size) (e : p[i].toNat = 42) (hk : s.size ≤ k) : MM p s i k = MM p s (i + 1) k := by
  unfold MM; rw [drop_cons p i h, drop_end s k hk, M_star_nil e]
theorem MM_byte {p s : ByteArray} {i k : Nat} (h : i < p.size) (e : p[i].toNat ≠ 42) (hk : k < s.size) : MM p s i k = (PT p s[k].toNat i && MM p s (PN p i) (k + 1)) := by
  unfold MM PT PN
  rw [drop_cons s k hk, drop_cons p i h, M_byte e, ← drop_cons p i h, List.drop_drop]
theorem MM_none {p s : ByteArray} {i k : Nat} (h : i < p.size) (e : p[i].toNat ≠ 42) (hk : s.size ≤ k) : MM p s i k = false := by
  unfold MM; rw [drop_cons p i h, drop_end s k hk, M_none e]
theorem MM_all (p s : ByteArray) : MM p s 0 0 = M (bs p) (bs s) := rfl

/-- A star takes a beginning of any length. -/
theorem MM_star_any {p s : ByteArray} {i : Nat} (h : i < p.size) (e : p[i].toNat = 42) : ∀ d k, k + d = s.size → (MM p s i k = true ↔ ∃ k', k ≤ k' ∧ k' ≤ s.size ∧ MM p s (i + 1) k' = true) := by
  intro d
  induction d with
  | zero =>
    intro k hk
    rw [MM_star_end h e (by omega)]
    constructor
    · intro x; exact ⟨k, Nat.le_refl _, by omega, x⟩
    · rintro ⟨k', h1, h2, x⟩
      have : k' = k := by omega
      subst this; exact x
  | succ d ih =>
    intro k hk
    rw [MM_star h e (by omega), Bool.or_eq_true, ih (k + 1) (by omega)]
    constructor
    · rintro (x | ⟨k', h1, h2, x⟩)
      · exact ⟨k, Nat.le_refl _, by omega, x⟩
      · exact ⟨k', by omega, h2, x⟩
    · rintro ⟨k', h1, h2, x⟩
      by_cases hq : k' = k
      · subst hq; exact Or.inl x
      · exact Or.inr ⟨k', by omega, h2, x⟩

/-! ### the walk that goes back to the last star alone -/
/-- What holds inside the walk: T, all that is asked, is told by the place (i, k), or by the last star's further ones. -/
def Inv (p s : ByteArray) (T : Bool) (i k : Nat) (b : Int) (r : Nat) : Prop :=
  i ≤ p.size ∧ k ≤ s.size ∧ r ≤ k + 1 ∧
  ((b = -1 ∧ T = MM p s i k) ∨
   (∃ b' j : Nat, b = b' ∧ b' ≤ p.size ∧ r + j = k + 1 ∧ 1 ≤ r ∧ (T = true ↔ MM p s i k = true ∨ ∃ k', r ≤ k' ∧ k' ≤ s.size ∧ MM p s b' k' = true) ∧
     ∀ k', k' ≤ s.size → MM p s b' k' = true → k' + j ≤ s.size ∧ MM p s i (k' + j) = true))
/-- The place does not fit: T is told by the last star's further places alone. -/
def Bad (p s : ByteArray) (T : Bool) (b : Int) (r : Nat) : Prop :=
  r ≤ s.size ∧ ((b = -1 ∧ T = false) ∨ (∃ b' : Nat, b = b' ∧ b' ≤ p.size ∧ (T = true ↔ ∃ k', r ≤ k' ∧ k' ≤ s.size ∧ MM p s b' k' = true)))
theorem inv_start (p s : ByteArray) : Inv p s (MM p s 0 0) 0 0 (-1) 0 := ⟨Nat.zero_le _, Nat.zero_le _, by omega, Or.inl ⟨rfl, rfl⟩⟩
theorem inv_star {p s : ByteArray} {T : Bool} {i k : Nat} {b : Int} {r : Nat} (I : Inv p s T i k b r) (h : i < p.size) (e : p[i].toNat = 42) : Inv p s T (i + 1) k ((i : Int) + 1) (k + 1) := by
  obtain ⟨h1, h2, h3, hb⟩ := I
  have key := MM_star_any (s := s) h e (s.size - k) k (by omega)
  refine ⟨h, h2, by omega, Or.inr ⟨i + 1, 0, by omega, h, by omega, by omega, ?_, ?_⟩⟩
  · have split1 : (∃ k', k ≤ k' ∧ k' ≤ s.size ∧ MM p s (i + 1) k' = true) ↔ (MM p s (i + 1) k = true ∨ ∃ k', k + 1 ≤ k' ∧ k' ≤ s.size ∧ MM p s (i + 1) k' = true) := by
      constructor
      · rintro ⟨k', q1, q2, x⟩
        by_cases hq : k' = k
        · subst hq; exact Or.inl x
        · exact Or.inr ⟨k', by omega, q2, x⟩
      · rintro (x | ⟨k', q1, q2, x⟩)
        · exact ⟨k, Nat.le_refl _, h2, x⟩
        · exact ⟨k', by omega, q2, x⟩
    rcases hb with ⟨_, hT⟩ | ⟨b', j, _, _, hj, _, hT, hall⟩
    · rw [hT, key, split1]
    · rw [hT, ← split1, ← key]
      constructor
      · rintro (x | ⟨k', q1, q2, x⟩)
        · exact x
        · obtain ⟨y1, y2⟩ := hall k' q2 x
          rw [MM_star_any h e (s.size - (k' + j)) (k' + j) (by omega)] at y2
          obtain ⟨k2, z1, z2, z3⟩ := y2
          exact key.2 ⟨k2, by omega, z2, z3⟩
      · exact Or.inl
  · intro k' q1 q2; exact ⟨q1, q2⟩
theorem inv_none {p s : ByteArray} {T : Bool} {i k : Nat} {b : Int} {r : Nat} (I : Inv p s T i k b r) (h : i < p.size) (e : p[i].toNat ≠ 42) (hk : k = s.size) : T = false := by
  obtain ⟨h1, h2, h3, hb⟩ := I
  have hn := MM_none (s := s) (k := k) h e (by omega)
  rcases hb with ⟨_, hT⟩ | ⟨b', j, _, _, hj, _, hT, hall⟩
  · rw [hT, hn]
  · cases hq : T with
    | false => rfl
    | true =>
      rcases hT.1 hq with x | ⟨k', q1, q2, x⟩
      · rw [hn] at x; exact absurd x (by decide)
      · have := (hall k' q2 x).1
        omega
theorem inv_no {p s : ByteArray} {T : Bool} {i k : Nat} {b : Int} {r : Nat} (I : Inv p s T i k b r) (h : i < p.size) (e : p[i].toNat ≠ 42) (hk : k < s.size) (hx : PT p s[k].toNat i = false) : Bad p s T b r := by
  obtain ⟨h1, h2, h3, hb⟩ := I
  have hn : MM p s i k = false := by rw [MM_byte h e hk, hx, Bool.false_and]
  refine ⟨by omega, ?_⟩
  rcases hb with ⟨hb1, hT⟩ | ⟨b', j, hb1, hb2, hj, _, hT, hall⟩
  · exact Or.inl ⟨hb1, by rw [hT, hn]⟩
  · exact Or.inr ⟨b', hb1, hb2, by rw [hT, hn]; simp⟩
theorem inv_yes {p s : ByteArray} {T : Bool} {i k : Nat} {b : Int} {r : Nat} (I : Inv p s T i k b r) (h : i < p.size) (e : p[i].toNat ≠ 42) (hk : k < s.size) (hx : PT p s[k].toNat i = true) : Inv p s T (PN p i) (k + 1) b r := by
  obtain ⟨h1, h2, h3, hb⟩ := I
  have hn : MM p s i k = MM p s (PN p i) (k + 1) := by rw [MM_byte h e hk, hx, Bool.true_and]
  refine ⟨PN_le h1, hk, by omega, ?_⟩
  rcases hb with ⟨hb1, hT⟩ | ⟨b', j, hb1, hb2, hj, hr, hT, hall⟩
  · exact Or.inl ⟨hb1, by rw [hT, hn]⟩
  · refine Or.inr ⟨b', j + 1, hb1, hb2, by omega, hr, by rw [hT, hn], ?_⟩
    intro k' q1 q2
    obtain ⟨y1, y2⟩ := hall k' q1 q2
    by_cases hlt : k' + j < s.size
    · rw [MM_byte h e hlt, Bool.and_eq_true] at y2
      exact ⟨by omega, y2.2⟩
    · rw [MM_none h e (by omega)] at y2
      exact absurd y2 (by decide)
theorem inv_full {p s : ByteArray} {T : Bool} {i k : Nat} {b : Int} {r : Nat} (I : Inv p s T i k b r) (h : p.size ≤ i) (hk : k = s.size) : T = true := by
  obtain ⟨h1, h2, h3, hb⟩ := I
  have hn := (MM_end (p := p) (s := s) (i := i) (k := k) h).2 (by omega)
  rcases hb with ⟨_, hT⟩ | ⟨b', j, _, _, hj, _, hT, hall⟩
  · rw [hT, hn]
  · exact hT.2 (Or.inl hn)
theorem inv_over {p s : ByteArray} {T : Bool} {i k : Nat} {b : Int} {r : Nat} (I : Inv p s T i k b r) (h : p.size ≤ i) (hk : k ≠ s.size) : Bad p s T b r := by
  obtain ⟨h1, h2, h3, hb⟩ := I
  have hn : MM p s i k = false := by
    cases hq : MM p s i k with
    | false => rfl
    | true => have := (MM_end h).1 hq; omega
  refine ⟨by omega, ?_⟩
  rcases hb with ⟨hb1, hT⟩ | ⟨b', j, hb1, hb2, hj, _, hT, hall⟩
  · exact Or.inl ⟨hb1, by rw [hT, hn]⟩
  · exact Or.inr ⟨b', hb1, hb2, by rw [hT, hn]; simp⟩
/-- Behind a place that does not fit: nothing is left, or the last star takes one byte more. -/
theorem bad_next {p s : ByteArray} {T : Bool} {b : Int} {r : Nat} (B : Bad p s T b r) : (b = -1 ∧ T = false) ∨ ∃ b' : Nat, b = b' ∧ Inv p s T b' r b (r + 1) := by
  obtain ⟨hr, hb⟩ := B
  rcases hb with x | ⟨b', hb1, hb2, hT⟩
  · exact Or.inl x
  · refine Or.inr ⟨b', hb1, hb2, hr, by omega, Or.inr ⟨b', 0, hb1, hb2, by omega, by omega, ?_, fun k' q1 q2 => ⟨q1, q2⟩⟩⟩
    rw [hT]
    constructor
    · rintro ⟨k', q1, q2, x⟩
      by_cases hq : k' = r
      · subst hq; exact Or.inl x
      · exact Or.inr ⟨k', by omega, q2, x⟩
    · rintro (x | ⟨k', q1, q2, x⟩)
      · exact ⟨r, Nat.le_refl _, hr, x⟩
      · exact ⟨k', by omega, q2, x⟩
end Go.Proofs.YtminfpkigenahaaGreatDoor.GMath
end
section
namespace Go.Proofs.YtminfpkigenahaaGreatDoor.GClass
open Go.RowKit
open Go.Proofs.YtminfpkigenahaaGreatDoor.GMath
set_option linter.unusedVariables false
set_option linter.unusedSimpArgs false

theorem hid_of {p : Prop} (h : p) : Hid p := h
theorem val_i {a b : Int} (h : a = b) : Value.int .i64 a = .int .i64 b := by rw [h]
theorem val_b {a b : Bool} (h : a = b) : Value.bool a = .bool b := by rw [h]
theorem ret_ci {a b c d : Int} (h1 : a = b) (h2 : c = d) : Ending.returned (.tuple #[.int .u8 a, .int .i64 c]) = .returned (.tuple #[.int .u8 b, .int .i64 d]) := by rw [h1, h2]
theorem ret_ib {a b : Int} {c d : Bool} (h1 : a = b) (h2 : c = d) : Ending.returned (.tuple #[.int .i64 a, .bool c]) = .returned (.tuple #[.int .i64 b, .bool d]) := by rw [h1, h2]
theorem ret_bi {a b : Int} {c d : Bool} (h1 : a = b) (h2 : c = d) : Ending.returned (.tuple #[.bool c, .int .i64 a]) = .returned (.tuple #[.bool d, .int .i64 b]) := by rw [h1, h2]

/-! ### literal -/
set_option maxHeartbeats 400000 in
theorem literal_esc (p : ByteArray) (i : Nat) (w : World) (hp : p.size ≤ 1000000000) (h : i + 1 < p.size) (e : p[i].toNat = 92) :
    Calls Tryz.prog 146 #[.string p, .int .i64 i] w fun e w' => e = .returned (.tuple #[.int .u8 p[i + 1].toNat, .int .i64 ((i : Int) + 2)]) ∧ w' = w := by
  have hi : i < p.size := by omega
  go_enter Tryz.func146, Tryz.ntmps146
  go_wp2
  go_ret2
  exact ⟨rfl, rfl⟩
set_option maxHeartbeats 400000 in
theorem literal_one (p : ByteArray) (i : Nat) (w : World) (hp : p.size ≤ 1000000000) (h : i < p.size) (e : ¬ (p[i].toNat = 92 ∧ i + 1 < p.size)) :
    Calls Tryz.prog 146 #[.string p, .int .i64 i] w fun e w' => e = .returned (.tuple #[.int .u8 p[i].toNat, .int .i64 ((i : Int) + 1)]) ∧ w' = w := by
  by_cases e1 : p[i].toNat = 92
  · have hi : i + 1 = p.size := by omega
    go_enter Tryz.func146, Tryz.ntmps146
    go_wp2
    go_ret2
    exact ⟨ret_ci (by rw [e1]; rfl) rfl, rfl⟩
  · clear e
    go_enter Tryz.func146, Tryz.ntmps146
    go_wp2
    go_ret2
    exact ⟨rfl, rfl⟩

/-! ### classItem -/
theorem index_at (p : ByteArray) (j : Nat) (h : j < p.size) (x : Int) (hx : x = (j : Int)) (w : World) : (Instr.index 9 (.string p) (.int .i64 x)).run Tryz.prog w = .ok (.int .u8 p[j].toNat) w := by
  subst hx
  rw [run_index_string w 9 p .i64 (j : Int) Tryz.underlying9, dif_pos ⟨by omega, by omega⟩]
  rfl
theorem drew_zero (w : World) : ∃ m, w = w.drewN m := ⟨0, rfl⟩
theorem ret_cci {a b c d e f : Int} (h1 : a = b) (h2 : c = d) (h3 : e = f) : Ending.returned (.tuple #[.int .u8 a, .int .u8 c, .int .i64 e]) = .returned (.tuple #[.int .u8 b, .int .u8 d, .int .i64 f]) := by rw [h1, h2, h3]
set_option maxHeartbeats 400000 in
theorem item_esc (p : ByteArray) (i : Nat) (w : World) (hp : p.size ≤ 1000000000) (h : i + 1 < p.size) (e : p[i].toNat = 92) :
    Calls Tryz.prog 160 #[.string p, .int .i64 i] w fun e w' => e = .returned (.tuple #[.int .u8 p[i + 1].toNat, .int .u8 p[i + 1].toNat, .int .i64 ((i : Int) + 2)]) ∧ ∃ m, w' = w.drewN m := by
  have hi : i < p.size := by omega
  have HC := hid_of (literal_esc p i w hp h e)
  go_enter Tryz.func160, Tryz.ntmps160
  go_wp2_with fail
  refine HC.out.mono ?_
  rintro e w1 ⟨rfl, rfl⟩
  go_wp2
  go_ret3
  exact ⟨rfl, drew_zero _⟩
set_option maxHeartbeats 400000 in
theorem item_one (p : ByteArray) (i : Nat) (w : World) (hp : p.size ≤ 1000000000) (h : i < p.size) (e : ¬ (p[i].toNat = 92 ∧ i + 1 < p.size)) (e3 : ∀ h : i + 2 < p.size, p[i + 1].toNat ≠ 45) :
    Calls Tryz.prog 160 #[.string p, .int .i64 i] w fun e w' => e = .returned (.tuple #[.int .u8 p[i].toNat, .int .u8 p[i].toNat, .int .i64 ((i : Int) + 1)]) ∧ ∃ m, w' = w.drewN m := by
  have HC := hid_of (literal_one p i w hp h e)
  by_cases e1 : p[i].toNat = 92
  · clear e e3
    have ht : ((p[i].toNat : Int) != 92) = false := by rw [e1]; rfl
    go_enter Tryz.func160, Tryz.ntmps160
    go_wp2_with fail
    refine HC.out.mono ?_
    rintro e w1 ⟨rfl, rfl⟩
    go_wp2
    go_ret3
    exact ⟨ret_cci (by simp [e1]) (by simp [e1]) rfl, drew_zero _⟩
  · clear e
    have ht : ((p[i].toNat : Int) != 92) = true := by simp; omega
    by_cases h2 : i + 2 < p.size
    · have e4 := e3 h2
      have ht3 : ((p[i + 1].toNat : Int) == 45) = false := by simp; omega
      have hi1 : i + 1 < p.size := by omega
      clear e3
      go_enter Tryz.func160, Tryz.ntmps160
      go_wp2_with fail
      refine HC.out.mono ?_
      rintro e w1 ⟨rfl, rfl⟩
      go_wp2
      go_ret3
      exact ⟨rfl, drew_zero _⟩
    · clear e3
      have ht2 : decide ((i : Int) + 2 < p.size) = false := by simp; omega
      go_enter Tryz.func160, Tryz.ntmps160
      go_wp2_with fail
      refine HC.out.mono ?_
      rintro e w1 ⟨rfl, rfl⟩
      go_wp2
      go_ret3
      exact ⟨rfl, drew_zero _⟩
set_option maxHeartbeats 400000 in
theorem item_range (p : ByteArray) (i : Nat) (w : World) (hp : p.size ≤ 1000000000) (h : i + 2 < p.size) (e : p[i].toNat ≠ 92) (e3 : p[i + 1].toNat = 45) :
    Calls Tryz.prog 160 #[.string p, .int .i64 i] w fun e w' => e = .returned (.tuple #[.int .u8 (min p[i].toNat p[i + 2].toNat : Nat), .int .u8 (max p[i].toNat p[i + 2].toNat : Nat), .int .i64 ((i : Int) + 3)]) ∧ ∃ m, w' = w.drewN m := by
  have hi : i < p.size := by omega
  have hi1 : i + 1 < p.size := by omega
  have h2 : (i : Int) + 2 < (p.size : Int) := by omega
  have hw : IntKind.i64.wrap ((i : Int) + 2) = (i : Int) + 2 := IntWalk.i64_in _ (by omega)
  have hx := index_at p (i + 2) h ((i : Int) + 2) (by omega)
  go_enter Tryz.func160, Tryz.ntmps160
  go_wp2
  go_quiet (fail)
  go_wp2
  all_goals go_ret3
  all_goals exact ⟨ret_cci (by omega) (by omega) rfl, nq, rfl⟩

theorem one_byte (a c : Nat) : (decide (a ≤ c) && decide (c ≤ a)) = (a == c) := by
  by_cases h : a = c
  · subst h; simp
  · rw [beq_false_of_ne h, Bool.and_eq_false_iff, decide_eq_false_iff_not, decide_eq_false_iff_not]; omega
/-- The item at k, which is no closing mark: it ends at nx and names the bytes from lo to hi. -/
theorem item_any (p : ByteArray) (k : Nat) (hp : p.size ≤ 1000000000) (h : k < p.size) (e : p[k].toNat ≠ 93) :
    ∃ lo hi nx : Nat, k < nx ∧ nx ≤ p.size ∧ CL p k = CL p nx ∧ (∀ c, CN p c k = ((decide (lo ≤ c) && decide (c ≤ hi)) || CN p c nx)) ∧
      ∀ w, Calls Tryz.prog 160 #[.string p, .int .i64 k] w fun e w' => e = .returned (.tuple #[.int .u8 lo, .int .u8 hi, .int .i64 nx]) ∧ ∃ m, w' = w.drewN m := by
  by_cases h1 : p[k].toNat = 92 ∧ k + 1 < p.size
  · refine ⟨p[k + 1].toNat, p[k + 1].toNat, k + 2, by omega, by omega, CL_esc h1.2 h1.1, fun c => by rw [CN_esc c h1.2 h1.1, one_byte], fun w => (item_esc p k w hp h1.2 h1.1).mono ?_⟩
    rintro e w' ⟨rfl, hm⟩; exact ⟨rfl, hm⟩
  · by_cases h2 : ∃ h : k + 2 < p.size, p[k + 1].toNat = 45
    · obtain ⟨h2, h3⟩ := h2
      have h4 : p[k].toNat ≠ 92 := fun x => h1 ⟨x, by omega⟩
      refine ⟨min p[k].toNat p[k + 2].toNat, max p[k].toNat p[k + 2].toNat, k + 3, by omega, by omega, CL_range h2 h4 e h3, fun c => CN_range c h2 h4 e h3, fun w => (item_range p k w hp h2 h4 h3).mono ?_⟩
      rintro e w' ⟨rfl, hm⟩; exact ⟨rfl, hm⟩
    · have h3 : ∀ h : k + 2 < p.size, p[k + 1].toNat ≠ 45 := fun x y => h2 ⟨x, y⟩
      refine ⟨p[k].toNat, p[k].toNat, k + 1, by omega, by omega, CL_one h h1 e h3, fun c => by rw [CN_one c h h1 e h3, one_byte], fun w => (item_one p k w hp h h1 h3).mono ?_⟩
      rintro e w' ⟨rfl, hm⟩; exact ⟨rfl, hm⟩

/-! ### classTakes -/
theorem hat_cases (p : ByteArray) (i : Nat) (hi : i ≤ p.size) : (∃ h : i < p.size, ((p[i].toNat : Int) == 94) = true ∧ Hid (HT p i = 1)) ∨ (∃ h : i < p.size, ((p[i].toNat : Int) == 94) = false ∧ Hid (HT p i = 0)) ∨ (¬ i < p.size ∧ Hid (HT p i = 0)) := by
  by_cases h : i < p.size
  · by_cases e : p[i].toNat = 94
    · exact Or.inl ⟨h, by rw [e]; rfl, HT_yes h e⟩
    · exact Or.inr (Or.inl ⟨h, by simp; omega, HT_no h e⟩)
  · exact Or.inr (Or.inr ⟨h, HT_end (by omega)⟩)
theorem nam_next {p : ByteArray} {c k lo hi nx : Nat} {y y' T : Bool} (hN : Hid (∀ c, CN p c k = ((decide (lo ≤ c) && decide (c ≤ hi)) || CN p c nx))) (H : Hid ((y || CN p c k) = T)) (hy : y' = (y || (decide (lo ≤ c) && decide (c ≤ hi)))) : Hid ((y' || CN p c nx) = T) := by
  show _ = _
  rw [hy, ← H.out, hN.out c, Bool.or_assoc]
theorem hat_room {p : ByteArray} {i : Nat} (hi : i ≤ p.size) : i + HT p i ≤ p.size := by
  have := hat_le ((bs p).drop i)
  rw [drop_len] at this
  unfold HT; omega
set_option maxHeartbeats 2000000 in
theorem takes_any (p : ByteArray) (i c : Nat) (w : World) (hp : p.size ≤ 1000000000) (hi : i ≤ p.size) (hc : c < 256) :
    Calls Tryz.prog 145 #[.string p, .int .i64 i, .int .u8 c] w fun e w' => e = .returned (.tuple #[.int .i64 (KE p i), .bool (KT p c i)]) ∧ ∃ m, w' = w.drewN m := by
  have hR := hid_of (hat_room hi)
  rcases hat_cases p i hi with ⟨h, ht, hH⟩ | ⟨h, ht, hH⟩ | ⟨ht, hH⟩
  all_goals
    go_enter Tryz.func145, Tryz.ntmps145
    go_wp2
    go_loopg [1, 9] (p.size - i) (fun g s1 s9 wx => ∃ (k : Nat) (y : Bool), k ≤ p.size ∧ p.size ≤ k + g ∧ s1 = .int .i64 k ∧ s9 = .bool y ∧ Hid ((y || CN p c k) = CN p c (i + HT p i)) ∧ Hid (CL p k = CL p (i + HT p i)) ∧ ∃ m, wx = w.drewN m)
    case atStart => exact ⟨i + HT p i, false, hR.out, by omega, val_i (by have := hH.out; omega), rfl, rfl, rfl, drew_zero _⟩
    case round =>
      clear ht
      obtain ⟨k, y, hk, hg, rfl, rfl, HN, HL, m, rfl⟩ := hrel
      by_cases hlt : k < p.size
      · by_cases h93 : p[k].toNat = 93
        · have ht : ((p[k].toNat : Int) != 93) = false := by rw [h93]; rfl
          have HE := hid_of (CL_shut hlt h93)
          have HM := hid_of (CN_shut c hlt h93)
          clear h93
          go_wp2
          go_ret2
          exact ⟨ret_ib (by unfold KE; rw [← HL.out, HE.out]; rfl) (by unfold KT; rw [← HN.out, HM.out, hH.out]; simp), m, rfl⟩
        · obtain ⟨lo, hi', nx, n1, n2, n3, n4, hC⟩ := item_any p k hp hlt h93
          have ht : ((p[k].toNat : Int) != 93) = true := by simp; omega
          have N3 := hid_of n3
          have N4 := hid_of n4
          have HC := hid_of hC
          clear h93 n3 n4 hC
          obtain ⟨g', rfl⟩ : ∃ g', gk = g' + 1 := ⟨gk - 1, by omega⟩
          cases y with
          | true =>
            go_wp2_with (go_at_call 160; refine (HC.out _).mono ?_; rintro e w1 ⟨rfl, m1, rfl⟩)
            go_roundg g'
            case measure => omega
            case rel => exact ⟨nx, true, n2, by omega, rfl, rfl, nam_next N4 HN rfl, by show _ = _; rw [← N3.out, HL.out], _, rfl⟩
          | false =>
            by_cases q1 : lo ≤ c
            · have t1 : decide ((lo : Int) ≤ c) = true := by simp; omega
              go_wp2_with (go_at_call 160; refine (HC.out _).mono ?_; rintro e w1 ⟨rfl, m1, rfl⟩)
              go_roundg g'
              case measure => omega
              case rel => exact ⟨nx, _, n2, by omega, rfl, rfl, nam_next N4 HN (by simp [q1]), by show _ = _; rw [← N3.out, HL.out], _, rfl⟩
            · have t1 : decide ((lo : Int) ≤ c) = false := by simp; omega
              go_wp2_with (go_at_call 160; refine (HC.out _).mono ?_; rintro e w1 ⟨rfl, m1, rfl⟩)
              go_roundg g'
              case measure => omega
              case rel => exact ⟨nx, _, n2, by omega, rfl, rfl, nam_next N4 HN (by simp [q1]), by show _ = _; rw [← N3.out, HL.out], _, rfl⟩
      · have HE := hid_of (CL_end (p := p) (i := k) (by omega))
        have HM := hid_of (CN_end (p := p) (i := k) c (by omega))
        go_wp2
        go_ret2
        exact ⟨ret_ib (by unfold KE; rw [← HL.out, HE.out]) (by unfold KT; rw [← HN.out, HM.out, hH.out]; simp), m, rfl⟩
end Go.Proofs.YtminfpkigenahaaGreatDoor.GClass
end
section
namespace Go.Proofs.YtminfpkigenahaaGreatDoor.GPiece
open Go.RowKit
open Go.Proofs.YtminfpkigenahaaGreatDoor.GMath
open Go.Proofs.YtminfpkigenahaaGreatDoor.GClass
set_option linter.unusedVariables false
set_option linter.unusedSimpArgs false

theorem int_beq (a b : Nat) : ((a : Int) == (b : Int)) = (a == b) := by
  by_cases h : a = b
  · subst h; simp
  · rw [beq_false_of_ne h, beq_false_of_ne (by omega)]

set_option maxHeartbeats 1000000 in
theorem piece_any (p : ByteArray) (i c : Nat) (w : World) (hp : p.size ≤ 1000000000) (hi : i < p.size) (hc : c < 256) :
    Calls Tryz.prog 126 #[.string p, .int .i64 i, .int .u8 c] w fun e w' => e = .returned (.tuple #[.int .i64 (PN p i), .bool (PT p c i)]) ∧ ∃ m, w' = w.drewN m := by
  by_cases e1 : p[i].toNat = 63
  · have ht : ((p[i].toNat : Int) == 63) = true := by rw [e1]; rfl
    have HN := hid_of (PN_mark hi e1)
    have HT := hid_of (PT_mark c hi e1)
    clear e1
    go_enter Tryz.func126, Tryz.ntmps126
    go_wp2
    go_ret2
    exact ⟨ret_ib (by rw [HN.out]; rfl) (by rw [HT.out]), drew_zero _⟩
  · have t1 : ((p[i].toNat : Int) == 63) = false := by simp; omega
    by_cases e2 : p[i].toNat = 91
    · have t2 : ((p[i].toNat : Int) == 91) = true := by rw [e2]; rfl
      have HN := hid_of (PN_class hi e2)
      have HT := hid_of (PT_class c hi e2)
      have HC := hid_of (fun w => takes_any p (i + 1) c w hp hi hc)
      clear e1 e2
      go_enter Tryz.func126, Tryz.ntmps126
      go_wp2_with (go_at_call 145; refine (HC.out _).mono ?_; rintro e w1 ⟨rfl, m1, rfl⟩)
      go_ret2
      exact ⟨ret_ib (by rw [HN.out]) (by rw [HT.out]), m1, rfl⟩
    · have t2 : ((p[i].toNat : Int) == 91) = false := by simp; omega
      by_cases e3 : p[i].toNat = 92 ∧ i + 1 < p.size
      · obtain ⟨e4, hi1⟩ := e3
        have HN := hid_of (PN_esc hi1 e4)
        have HT := hid_of (PT_esc c hi1 e4)
        have HC := hid_of (fun w => literal_esc p i w hp hi1 e4)
        clear e1 e2 e4
        go_enter Tryz.func126, Tryz.ntmps126
        go_wp2_with (go_at_call 146; refine (HC.out _).mono ?_; rintro e w1 ⟨rfl, rfl⟩)
        go_ret2
        exact ⟨ret_ib (by rw [HN.out]; rfl) (by rw [HT.out, ← int_beq]), drew_zero _⟩
      · have HN := hid_of (PN_else hi e1 e2 e3)
        have HT := hid_of (PT_else c hi e1 e2 e3)
        have HC := hid_of (fun w => literal_one p i w hp hi e3)
        clear e1 e2 e3
        go_enter Tryz.func126, Tryz.ntmps126
        go_wp2_with (go_at_call 146; refine (HC.out _).mono ?_; rintro e w1 ⟨rfl, rfl⟩)
        go_ret2
        exact ⟨ret_ib (by rw [HN.out]; rfl) (by rw [HT.out, ← int_beq]), drew_zero _⟩
end Go.Proofs.YtminfpkigenahaaGreatDoor.GPiece
end
