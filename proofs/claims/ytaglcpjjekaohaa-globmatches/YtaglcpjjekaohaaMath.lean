/- What a pattern means, in plain terms over lists of bytes: classes, pieces, matching; and the same by places in a pattern and a text. -/
import Derived.WalkKit
import Derived.Below
namespace Go.Proofs.Ytaglcpjjekaohaa.Math
set_option linter.unusedVariables false

/-! ### classes -/
def clen : List UInt8 → Nat
  | [] => 0
  | a :: l =>
    if a.toNat = 92 ∧ l ≠ [] then 2 + clen (l.drop 1)
    else if a.toNat = 93 then 1
    else if 2 ≤ l.length ∧ (l.headD 0).toNat = 45 then 3 + clen (l.drop 2)
    else 1 + clen l
  termination_by l => l.length
  decreasing_by all_goals (simp only [List.length_drop, List.length_cons]; omega)

def cnam (c : Nat) : List UInt8 → Bool
  | [] => false
  | a :: l =>
    if a.toNat = 92 ∧ l ≠ [] then ((l.headD 0).toNat == c) || cnam c (l.drop 1)
    else if a.toNat = 93 then false
    else if 2 ≤ l.length ∧ (l.headD 0).toNat = 45 then (decide (min a.toNat ((l.drop 1).headD 0).toNat ≤ c) && decide (c ≤ max a.toNat ((l.drop 1).headD 0).toNat)) || cnam c (l.drop 2)
    else (a.toNat == c) || cnam c l
  termination_by l => l.length
  decreasing_by all_goals (simp only [List.length_drop, List.length_cons]; omega)

theorem clen_le (n : Nat) : ∀ l : List UInt8, l.length ≤ n → clen l ≤ l.length := by
  induction n with
  | zero => intro l h; cases l with | nil => simp [clen] | cons a l => simp at h
  | succ n ih =>
    intro l h
    cases l with
    | nil => simp [clen]
    | cons a l =>
      rw [clen]
      have hl : l.length ≤ n := by simp at h; omega
      split
      · rename_i hc
        have : 1 ≤ l.length := by cases l with | nil => simp at hc | cons _ _ => simp
        have := ih (l.drop 1) (by simp; omega)
        simp at this ⊢; omega
      · split
        · simp
        · split
          · have := ih (l.drop 2) (by simp; omega)
            simp at this ⊢; omega
          · have := ih l hl
            simp; omega

/-! ### pieces -/
def hat (l : List UInt8) : Nat := if (l.headD 0).toNat = 94 then 1 else 0
def plen : List UInt8 → Nat
  | [] => 0
  | a :: l =>
    if a.toNat = 63 then 1
    else if a.toNat = 91 then 1 + hat l + clen (l.drop (hat l))
    else if a.toNat = 92 ∧ l ≠ [] then 2
    else 1
def ptak (c : Nat) : List UInt8 → Bool
  | [] => false
  | a :: l =>
    if a.toNat = 63 then true
    else if a.toNat = 91 then (cnam c (l.drop (hat l)) != (hat l == 1))
    else if a.toNat = 92 ∧ l ≠ [] then ((l.headD 0).toNat == c)
    else (a.toNat == c)
theorem hat_le (l : List UInt8) : hat l ≤ l.length := by
  unfold hat
  cases l with
  | nil => simp
  | cons a l => split <;> simp
theorem plen_le (l : List UInt8) : plen l ≤ l.length := by
  cases l with
  | nil => simp [plen]
  | cons a l =>
    simp only [plen]
    split
    · simp
    · split
      · have := clen_le _ (l.drop (hat l)) (Nat.le_refl _)
        have := hat_le l
        simp at *; omega
      · split
        · rename_i h
          have : 1 ≤ l.length := by cases l with | nil => simp at h | cons _ _ => simp
          simp; omega
        · simp
theorem plen_pos {l : List UInt8} (h : l ≠ []) : 1 ≤ plen l := by
  cases l with
  | nil => simp at h
  | cons a l =>
    simp only [plen]
    split
    · simp
    · split
      · omega
      · split <;> omega

/-! ### matching -/
def M : List UInt8 → List UInt8 → Bool
  | [], s => s.isEmpty
  | a :: l, s =>
    if a.toNat = 42 then M l s || (match s with | [] => false | _ :: s' => M (a :: l) s')
    else match s with
      | [] => false
      | b :: s' => ptak b.toNat (a :: l) && M ((a :: l).drop (plen (a :: l))) s'
  termination_by p s => p.length + s.length
  decreasing_by all_goals (simp only [List.length_drop, List.length_cons]; omega)

theorem M_nil (s : List UInt8) : M [] s = s.isEmpty := by rw [M]
theorem M_star_cons {a : UInt8} (h : a.toNat = 42) (l : List UInt8) (b : UInt8) (s : List UInt8) : M (a :: l) (b :: s) = (M l (b :: s) || M (a :: l) s) := by rw [M, if_pos h]
theorem M_star_nil {a : UInt8} (h : a.toNat = 42) (l : List UInt8) : M (a :: l) [] = M l [] := by rw [M, if_pos h]; simp
theorem M_byte {a : UInt8} (h : a.toNat ≠ 42) (l : List UInt8) (b : UInt8) (s : List UInt8) : M (a :: l) (b :: s) = (ptak b.toNat (a :: l) && M ((a :: l).drop (plen (a :: l))) s) := by rw [M, if_neg h]
theorem M_none {a : UInt8} (h : a.toNat ≠ 42) (l : List UInt8) : M (a :: l) [] = false := by rw [M, if_neg h]

/-! ### by places -/
def bs (p : ByteArray) : List UInt8 := p.data.toList
theorem bs_len (p : ByteArray) : (bs p).length = p.size := Array.length_toList
theorem drop_cons (p : ByteArray) (i : Nat) (h : i < p.size) : (bs p).drop i = p[i] :: (bs p).drop (i + 1) := by
  rw [List.drop_eq_getElem_cons (by rw [bs_len]; exact h)]; rfl
theorem drop_end (p : ByteArray) (i : Nat) (h : p.size ≤ i) : (bs p).drop i = [] := List.drop_eq_nil_of_le (by rw [bs_len]; exact h)
theorem drop_ne (p : ByteArray) (i : Nat) : (bs p).drop i ≠ [] ↔ i < p.size := by
  rw [Ne, List.drop_eq_nil_iff, bs_len]; omega
theorem drop_hd (p : ByteArray) (i : Nat) (h : i < p.size) : ((bs p).drop i).headD 0 = p[i] := by rw [drop_cons p i h]; rfl
theorem drop_len (p : ByteArray) (i : Nat) : ((bs p).drop i).length = p.size - i := by rw [List.length_drop, bs_len]

def CL (p : ByteArray) (i : Nat) : Nat := i + clen ((bs p).drop i)
def CN (p : ByteArray) (c i : Nat) : Bool := cnam c ((bs p).drop i)
theorem CL_end {p : ByteArray} {i : Nat} (h : p.size ≤ i) : CL p i = i := by simp [CL, drop_end p i h, clen]
theorem CN_end {p : ByteArray} {i : Nat} (c : Nat) (h : p.size ≤ i) : CN p c i = false := by simp [CN, drop_end p i h, cnam]
theorem CL_esc {p : ByteArray} {i : Nat} (h : i + 1 < p.size) (e : p[i].toNat = 92) : CL p i = CL p (i + 2) := by
  unfold CL
  rw [drop_cons p i (by omega), clen, if_pos ⟨e, (drop_ne p _).2 h⟩, List.drop_drop]
  show i + (2 + clen ((bs p).drop (i + 2))) = i + 2 + clen ((bs p).drop (i + 2))
  omega
theorem CN_esc {p : ByteArray} {i : Nat} (c : Nat) (h : i + 1 < p.size) (e : p[i].toNat = 92) : CN p c i = ((p[i + 1].toNat == c) || CN p c (i + 2)) := by
  unfold CN
  rw [drop_cons p i (by omega), cnam, if_pos ⟨e, (drop_ne p _).2 h⟩, List.drop_drop, drop_hd p _ h]
theorem CL_shut {p : ByteArray} {i : Nat} (h : i < p.size) (e : p[i].toNat = 93) : CL p i = i + 1 := by
  unfold CL
  rw [drop_cons p i h, clen, if_neg (by omega), if_pos e]
theorem CN_shut {p : ByteArray} {i : Nat} (c : Nat) (h : i < p.size) (e : p[i].toNat = 93) : CN p c i = false := by
  unfold CN
  rw [drop_cons p i h, cnam, if_neg (by omega), if_pos e]
theorem CL_range {p : ByteArray} {i : Nat} (h : i + 2 < p.size) (e1 : p[i].toNat ≠ 92) (e2 : p[i].toNat ≠ 93) (e3 : p[i + 1].toNat = 45) : CL p i = CL p (i + 3) := by
  unfold CL
  rw [drop_cons p i (by omega), clen, if_neg (fun x => e1 x.1), if_neg e2, if_pos ⟨by rw [drop_len]; omega, by rw [drop_hd p _ (by omega)]; exact e3⟩, List.drop_drop]
  show i + (3 + clen ((bs p).drop (i + 3))) = i + 3 + clen ((bs p).drop (i + 3))
  omega
theorem CN_range {p : ByteArray} {i : Nat} (c : Nat) (h : i + 2 < p.size) (e1 : p[i].toNat ≠ 92) (e2 : p[i].toNat ≠ 93) (e3 : p[i + 1].toNat = 45) :
    CN p c i = ((decide (min p[i].toNat p[i + 2].toNat ≤ c) && decide (c ≤ max p[i].toNat p[i + 2].toNat)) || CN p c (i + 3)) := by
  unfold CN
  rw [drop_cons p i (by omega), cnam, if_neg (fun x => e1 x.1), if_neg e2, if_pos ⟨by rw [drop_len]; omega, by rw [drop_hd p _ (by omega)]; exact e3⟩, List.drop_drop, List.drop_drop, drop_hd p _ (by omega)]
theorem CL_one {p : ByteArray} {i : Nat} (h : i < p.size) (e1 : ¬ (p[i].toNat = 92 ∧ i + 1 < p.size)) (e2 : p[i].toNat ≠ 93) (e3 : ∀ h : i + 2 < p.size, p[i + 1].toNat ≠ 45) : CL p i = CL p (i + 1) := by
  unfold CL
  rw [drop_cons p i h, clen, if_neg (fun x => e1 ⟨x.1, (drop_ne p _).1 x.2⟩), if_neg e2, if_neg]
  · omega
  · rintro ⟨x, y⟩
    rw [drop_len] at x
    rw [drop_hd p _ (by omega)] at y
    exact e3 (by omega) y
theorem CN_one {p : ByteArray} {i : Nat} (c : Nat) (h : i < p.size) (e1 : ¬ (p[i].toNat = 92 ∧ i + 1 < p.size)) (e2 : p[i].toNat ≠ 93) (e3 : ∀ h : i + 2 < p.size, p[i + 1].toNat ≠ 45) : CN p c i = ((p[i].toNat == c) || CN p c (i + 1)) := by
  unfold CN
  rw [drop_cons p i h, cnam, if_neg (fun x => e1 ⟨x.1, (drop_ne p _).1 x.2⟩), if_neg e2, if_neg]
  rintro ⟨x, y⟩
  rw [drop_len] at x
  rw [drop_hd p _ (by omega)] at y
  exact e3 (by omega) y
theorem CL_ge (p : ByteArray) (i : Nat) : i ≤ CL p i := Nat.le_add_right _ _
theorem CL_le {p : ByteArray} {i : Nat} (h : i ≤ p.size) : CL p i ≤ p.size := by
  have := clen_le _ ((bs p).drop i) (Nat.le_refl _)
  rw [drop_len] at this
  unfold CL; omega

def HT (p : ByteArray) (i : Nat) : Nat := hat ((bs p).drop i)
theorem HT_yes {p : ByteArray} {i : Nat} (h : i < p.size) (e : p[i].toNat = 94) : HT p i = 1 := by
  unfold HT hat; rw [drop_hd p i h, if_pos e]
theorem HT_no {p : ByteArray} {i : Nat} (h : i < p.size) (e : p[i].toNat ≠ 94) : HT p i = 0 := by
  unfold HT hat; rw [drop_hd p i h, if_neg e]
theorem HT_end {p : ByteArray} {i : Nat} (h : p.size ≤ i) : HT p i = 0 := by
  unfold HT hat; rw [drop_end p i h]; rfl
/-- Behind a class whose items (and the hat) begin at i; and whether it means c. -/
def KE (p : ByteArray) (i : Nat) : Nat := CL p (i + HT p i)
def KT (p : ByteArray) (c i : Nat) : Bool := CN p c (i + HT p i) != (HT p i == 1)
theorem KE_le {p : ByteArray} {i : Nat} (h : i ≤ p.size) : KE p i ≤ p.size := by
  have := hat_le ((bs p).drop i)
  rw [drop_len] at this
  exact CL_le (by unfold HT; omega)
theorem KE_ge (p : ByteArray) (i : Nat) : i ≤ KE p i := Nat.le_trans (Nat.le_add_right _ _) (CL_ge p _)

def PN (p : ByteArray) (i : Nat) : Nat := i + plen ((bs p).drop i)
def PT (p : ByteArray) (c i : Nat) : Bool := ptak c ((bs p).drop i)
theorem PN_le {p : ByteArray} {i : Nat} (h : i ≤ p.size) : PN p i ≤ p.size := by
  have := plen_le ((bs p).drop i)
  rw [drop_len] at this
  unfold PN; omega
theorem PN_gt {p : ByteArray} {i : Nat} (h : i < p.size) : i < PN p i := by
  have := plen_pos ((drop_ne p i).2 h)
  unfold PN; omega
theorem PN_mark {p : ByteArray} {i : Nat} (h : i < p.size) (e : p[i].toNat = 63) : PN p i = i + 1 := by
  unfold PN; rw [drop_cons p i h, plen, if_pos e]
theorem PT_mark {p : ByteArray} {i : Nat} (c : Nat) (h : i < p.size) (e : p[i].toNat = 63) : PT p c i = true := by
  unfold PT; rw [drop_cons p i h, ptak, if_pos e]
theorem PN_class {p : ByteArray} {i : Nat} (h : i < p.size) (e : p[i].toNat = 91) : PN p i = KE p (i + 1) := by
  unfold PN KE CL HT; rw [drop_cons p i h, plen, if_neg (by omega), if_pos e, List.drop_drop]; omega
theorem PT_class {p : ByteArray} {i : Nat} (c : Nat) (h : i < p.size) (e : p[i].toNat = 91) : PT p c i = KT p c (i + 1) := by
  unfold PT KT CN HT; rw [drop_cons p i h, ptak, if_neg (by omega), if_pos e, List.drop_drop]
theorem PN_esc {p : ByteArray} {i : Nat} (h : i + 1 < p.size) (e : p[i].toNat = 92) : PN p i = i + 2 := by
  unfold PN; rw [drop_cons p i (by omega), plen, if_neg (by omega), if_neg (by omega), if_pos ⟨e, (drop_ne p _).2 h⟩]
theorem PT_esc {p : ByteArray} {i : Nat} (c : Nat) (h : i + 1 < p.size) (e : p[i].toNat = 92) : PT p c i = (p[i + 1].toNat == c) := by
  unfold PT; rw [drop_cons p i (by omega), ptak, if_neg (by omega), if_neg (by omega), if_pos ⟨e, (drop_ne p _).2 h⟩, drop_hd p _ h]
theorem PN_else {p : ByteArray} {i : Nat} (h : i < p.size) (e1 : p[i].toNat ≠ 63) (e2 : p[i].toNat ≠ 91) (e3 : ¬ (p[i].toNat = 92 ∧ i + 1 < p.size)) : PN p i = i + 1 := by
  unfold PN; rw [drop_cons p i h, plen, if_neg e1, if_neg e2, if_neg (fun x => e3 ⟨x.1, (drop_ne p _).1 x.2⟩)]
theorem PT_else {p : ByteArray} {i : Nat} (c : Nat) (h : i < p.size) (e1 : p[i].toNat ≠ 63) (e2 : p[i].toNat ≠ 91) (e3 : ¬ (p[i].toNat = 92 ∧ i + 1 < p.size)) : PT p c i = (p[i].toNat == c) := by
  unfold PT; rw [drop_cons p i h, ptak, if_neg e1, if_neg e2, if_neg (fun x => e3 ⟨x.1, (drop_ne p _).1 x.2⟩)]

def MM (p s : ByteArray) (i k : Nat) : Bool := M ((bs p).drop i) ((bs s).drop k)
theorem MM_end {p s : ByteArray} {i k : Nat} (h : p.size ≤ i) : MM p s i k = true ↔ s.size ≤ k := by
  unfold MM; rw [drop_end p i h, M_nil, List.isEmpty_iff, List.drop_eq_nil_iff, bs_len]
theorem MM_star {p s : ByteArray} {i k : Nat} (h : i < p.size) (e : p[i].toNat = 42) (hk : k < s.size) : MM p s i k = (MM p s (i + 1) k || MM p s i (k + 1)) := by
  unfold MM; rw [drop_cons p i h, drop_cons s k hk, M_star_cons e]
theorem MM_star_end {p s : ByteArray} {i k : Nat} (h : i < p.size) (e : p[i].toNat = 42) (hk : s.size ≤ k) : MM p s i k = MM p s (i + 1) k := by
  unfold MM; rw [drop_cons p i h, drop_end s k hk, M_star_nil e]
theorem MM_byte {p s : ByteArray} {i k : Nat} (h : i < p.size) (e : p[i].toNat ≠ 42) (hk : k < s.size) : MM p s i k = (PT p s[k].toNat i && MM p s (PN p i) (k + 1)) := by
  unfold MM PT PN
  rw [drop_cons s k hk, drop_cons p i h, M_byte e, ← drop_cons p i h, List.drop_drop]
theorem MM_none {p s : ByteArray} {i k : Nat} (h : i < p.size) (e : p[i].toNat ≠ 42) (hk : s.size ≤ k) : MM p s i k = false := by
  unfold MM; rw [drop_cons p i h, drop_end s k hk, M_none e]
theorem MM_all (p s : ByteArray) : MM p s 0 0 = M (bs p) (bs s) := rfl

/-- A star takes a beginning of any length. -/
theorem MM_star_any {p s : ByteArray} {i : Nat} (h : i < p.size) (e : p[i].toNat = 42) : ∀ d k, k + d = s.size → (MM p s i k = true ↔ ∃ k', k ≤ k' ∧ k' ≤ s.size ∧ MM p s (i + 1) k' = true) := by
  intro d
  induction d with
  | zero =>
    intro k hk
    rw [MM_star_end h e (by omega)]
    constructor
    · intro x; exact ⟨k, Nat.le_refl _, by omega, x⟩
    · rintro ⟨k', h1, h2, x⟩
      have : k' = k := by omega
      subst this; exact x
  | succ d ih =>
    intro k hk
    rw [MM_star h e (by omega), Bool.or_eq_true, ih (k + 1) (by omega)]
    constructor
    · rintro (x | ⟨k', h1, h2, x⟩)
      · exact ⟨k, Nat.le_refl _, by omega, x⟩
      · exact ⟨k', by omega, h2, x⟩
    · rintro ⟨k', h1, h2, x⟩
      by_cases hq : k' = k
      · subst hq; exact Or.inl x
      · exact Or.inr ⟨k', by omega, h2, x⟩

/-! ### the walk that goes back to the last star alone -/
/-- What holds inside the walk: T, all that is asked, is told by the place (i, k), or by the last star's further ones. -/
def Inv (p s : ByteArray) (T : Bool) (i k : Nat) (b : Int) (r : Nat) : Prop :=
  i ≤ p.size ∧ k ≤ s.size ∧ r ≤ k + 1 ∧
  ((b = -1 ∧ T = MM p s i k) ∨
   (∃ b' j : Nat, b = b' ∧ b' ≤ p.size ∧ r + j = k + 1 ∧ 1 ≤ r ∧ (T = true ↔ MM p s i k = true ∨ ∃ k', r ≤ k' ∧ k' ≤ s.size ∧ MM p s b' k' = true) ∧
     ∀ k', k' ≤ s.size → MM p s b' k' = true → k' + j ≤ s.size ∧ MM p s i (k' + j) = true))
/-- The place does not fit: T is told by the last star's further places alone. -/
def Bad (p s : ByteArray) (T : Bool) (b : Int) (r : Nat) : Prop :=
  r ≤ s.size ∧ ((b = -1 ∧ T = false) ∨ (∃ b' : Nat, b = b' ∧ b' ≤ p.size ∧ (T = true ↔ ∃ k', r ≤ k' ∧ k' ≤ s.size ∧ MM p s b' k' = true)))
theorem inv_start (p s : ByteArray) : Inv p s (MM p s 0 0) 0 0 (-1) 0 := ⟨Nat.zero_le _, Nat.zero_le _, by omega, Or.inl ⟨rfl, rfl⟩⟩
theorem inv_star {p s : ByteArray} {T : Bool} {i k : Nat} {b : Int} {r : Nat} (I : Inv p s T i k b r) (h : i < p.size) (e : p[i].toNat = 42) : Inv p s T (i + 1) k ((i : Int) + 1) (k + 1) := by
  obtain ⟨h1, h2, h3, hb⟩ := I
  have key := MM_star_any (s := s) h e (s.size - k) k (by omega)
  refine ⟨h, h2, by omega, Or.inr ⟨i + 1, 0, by omega, h, by omega, by omega, ?_, ?_⟩⟩
  · have split1 : (∃ k', k ≤ k' ∧ k' ≤ s.size ∧ MM p s (i + 1) k' = true) ↔ (MM p s (i + 1) k = true ∨ ∃ k', k + 1 ≤ k' ∧ k' ≤ s.size ∧ MM p s (i + 1) k' = true) := by
      constructor
      · rintro ⟨k', q1, q2, x⟩
        by_cases hq : k' = k
        · subst hq; exact Or.inl x
        · exact Or.inr ⟨k', by omega, q2, x⟩
      · rintro (x | ⟨k', q1, q2, x⟩)
        · exact ⟨k, Nat.le_refl _, h2, x⟩
        · exact ⟨k', by omega, q2, x⟩
    rcases hb with ⟨_, hT⟩ | ⟨b', j, _, _, hj, _, hT, hall⟩
    · rw [hT, key, split1]
    · rw [hT, ← split1, ← key]
      constructor
      · rintro (x | ⟨k', q1, q2, x⟩)
        · exact x
        · obtain ⟨y1, y2⟩ := hall k' q2 x
          rw [MM_star_any h e (s.size - (k' + j)) (k' + j) (by omega)] at y2
          obtain ⟨k2, z1, z2, z3⟩ := y2
          exact key.2 ⟨k2, by omega, z2, z3⟩
      · exact Or.inl
  · intro k' q1 q2; exact ⟨q1, q2⟩
theorem inv_none {p s : ByteArray} {T : Bool} {i k : Nat} {b : Int} {r : Nat} (I : Inv p s T i k b r) (h : i < p.size) (e : p[i].toNat ≠ 42) (hk : k = s.size) : T = false := by
  obtain ⟨h1, h2, h3, hb⟩ := I
  have hn := MM_none (s := s) (k := k) h e (by omega)
  rcases hb with ⟨_, hT⟩ | ⟨b', j, _, _, hj, _, hT, hall⟩
  · rw [hT, hn]
  · cases hq : T with
    | false => rfl
    | true =>
      rcases hT.1 hq with x | ⟨k', q1, q2, x⟩
      · rw [hn] at x; exact absurd x (by decide)
      · have := (hall k' q2 x).1
        omega
theorem inv_no {p s : ByteArray} {T : Bool} {i k : Nat} {b : Int} {r : Nat} (I : Inv p s T i k b r) (h : i < p.size) (e : p[i].toNat ≠ 42) (hk : k < s.size) (hx : PT p s[k].toNat i = false) : Bad p s T b r := by
  obtain ⟨h1, h2, h3, hb⟩ := I
  have hn : MM p s i k = false := by rw [MM_byte h e hk, hx, Bool.false_and]
  refine ⟨by omega, ?_⟩
  rcases hb with ⟨hb1, hT⟩ | ⟨b', j, hb1, hb2, hj, _, hT, hall⟩
  · exact Or.inl ⟨hb1, by rw [hT, hn]⟩
  · exact Or.inr ⟨b', hb1, hb2, by rw [hT, hn]; simp⟩
theorem inv_yes {p s : ByteArray} {T : Bool} {i k : Nat} {b : Int} {r : Nat} (I : Inv p s T i k b r) (h : i < p.size) (e : p[i].toNat ≠ 42) (hk : k < s.size) (hx : PT p s[k].toNat i = true) : Inv p s T (PN p i) (k + 1) b r := by
  obtain ⟨h1, h2, h3, hb⟩ := I
  have hn : MM p s i k = MM p s (PN p i) (k + 1) := by rw [MM_byte h e hk, hx, Bool.true_and]
  refine ⟨PN_le h1, hk, by omega, ?_⟩
  rcases hb with ⟨hb1, hT⟩ | ⟨b', j, hb1, hb2, hj, hr, hT, hall⟩
  · exact Or.inl ⟨hb1, by rw [hT, hn]⟩
  · refine Or.inr ⟨b', j + 1, hb1, hb2, by omega, hr, by rw [hT, hn], ?_⟩
    intro k' q1 q2
    obtain ⟨y1, y2⟩ := hall k' q1 q2
    by_cases hlt : k' + j < s.size
    · rw [MM_byte h e hlt, Bool.and_eq_true] at y2
      exact ⟨by omega, y2.2⟩
    · rw [MM_none h e (by omega)] at y2
      exact absurd y2 (by decide)
theorem inv_full {p s : ByteArray} {T : Bool} {i k : Nat} {b : Int} {r : Nat} (I : Inv p s T i k b r) (h : p.size ≤ i) (hk : k = s.size) : T = true := by
  obtain ⟨h1, h2, h3, hb⟩ := I
  have hn := (MM_end (p := p) (s := s) (i := i) (k := k) h).2 (by omega)
  rcases hb with ⟨_, hT⟩ | ⟨b', j, _, _, hj, _, hT, hall⟩
  · rw [hT, hn]
  · exact hT.2 (Or.inl hn)
theorem inv_over {p s : ByteArray} {T : Bool} {i k : Nat} {b : Int} {r : Nat} (I : Inv p s T i k b r) (h : p.size ≤ i) (hk : k ≠ s.size) : Bad p s T b r := by
  obtain ⟨h1, h2, h3, hb⟩ := I
  have hn : MM p s i k = false := by
    cases hq : MM p s i k with
    | false => rfl
    | true => have := (MM_end h).1 hq; omega
  refine ⟨by omega, ?_⟩
  rcases hb with ⟨hb1, hT⟩ | ⟨b', j, hb1, hb2, hj, _, hT, hall⟩
  · exact Or.inl ⟨hb1, by rw [hT, hn]⟩
  · exact Or.inr ⟨b', hb1, hb2, by rw [hT, hn]; simp⟩
/-- Behind a place that does not fit: nothing is left, or the last star takes one byte more. -/
theorem bad_next {p s : ByteArray} {T : Bool} {b : Int} {r : Nat} (B : Bad p s T b r) : (b = -1 ∧ T = false) ∨ ∃ b' : Nat, b = b' ∧ Inv p s T b' r b (r + 1) := by
  obtain ⟨hr, hb⟩ := B
  rcases hb with x | ⟨b', hb1, hb2, hT⟩
  · exact Or.inl x
  · refine Or.inr ⟨b', hb1, hb2, hr, by omega, Or.inr ⟨b', 0, hb1, hb2, by omega, by omega, ?_, fun k' q1 q2 => ⟨q1, q2⟩⟩⟩
    rw [hT]
    constructor
    · rintro ⟨k', q1, q2, x⟩
      by_cases hq : k' = r
      · subst hq; exact Or.inl x
      · exact Or.inr ⟨k', by omega, q2, x⟩
    · rintro (x | ⟨k', q1, q2, x⟩)
      · exact ⟨r, Nat.le_refl _, hr, x⟩
      · exact ⟨k', by omega, q2, x⟩
end Go.Proofs.Ytaglcpjjekaohaa.Math
