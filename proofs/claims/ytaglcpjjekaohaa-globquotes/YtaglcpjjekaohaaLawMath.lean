/- What follows of the meaning of patterns: quoted texts, stars, question marks. Said over lists of bytes. -/
import Derived.Test.YtaglcpjjekaohaaQuoteMath
namespace Go.Proofs.Ytaglcpjjekaohaa.LawMath
open Go.Proofs.Ytaglcpjjekaohaa.Math
open Go.Proofs.Ytaglcpjjekaohaa.QuoteMath
set_option linter.unusedVariables false

theorem isQ_no {c : UInt8} (h : isQ c.toNat = false) : c.toNat ≠ 42 ∧ c.toNat ≠ 63 ∧ c.toNat ≠ 91 ∧ c.toNat ≠ 92 := by
  simp only [isQ, isO, Bool.or_eq_false_iff, beq_eq_false_iff_ne, ne_eq] at h
  exact ⟨h.1.1, h.1.2.1, h.1.2.2, h.2⟩
theorem nat_eq (a b : UInt8) : (a.toNat == b.toNat) = true ↔ a = b := by
  rw [beq_iff_eq]; exact UInt8.toNat_inj
theorem M_q1_nil (c : UInt8) (p : List UInt8) : M (q1 c ++ p) [] = false := by
  unfold q1
  split
  · exact M_none (by decide) _
  · rename_i h
    exact M_none (isQ_no (by simpa using h)).1 _
theorem M_q1 (c : UInt8) (p : List UInt8) (b : UInt8) (s : List UInt8) : M (q1 c ++ p) (b :: s) = true ↔ c = b ∧ M p s = true := by
  unfold q1
  split
  · rename_i h
    show M (92 :: c :: p) (b :: s) = true ↔ _
    rw [M_byte (by decide), Bool.and_eq_true]
    have h1 : plen (92 :: c :: p) = 2 := by
      rw [plen, if_neg (by decide), if_neg (by decide), if_pos ⟨by decide, by simp⟩]
    have h2 : ptak b.toNat (92 :: c :: p) = (c.toNat == b.toNat) := by
      rw [ptak, if_neg (by decide), if_neg (by decide), if_pos ⟨by decide, by simp⟩]; rfl
    rw [h1, h2, nat_eq]; rfl
  · rename_i h
    obtain ⟨h1, h2, h3, h4⟩ := isQ_no (by simpa using h)
    show M (c :: p) (b :: s) = true ↔ _
    rw [M_byte h1, Bool.and_eq_true]
    have g1 : plen (c :: p) = 1 := by rw [plen, if_neg h2, if_neg h3, if_neg (fun x => h4 x.1)]
    have g2 : ptak b.toNat (c :: p) = (c.toNat == b.toNat) := by rw [ptak, if_neg h2, if_neg h3, if_neg (fun x => h4 x.1)]
    rw [g1, g2, nat_eq]; rfl
theorem M_quote (a : List UInt8) : ∀ (p s : List UInt8), M (quote a ++ p) s = true ↔ ∃ t, s = a ++ t ∧ M p t = true := by
  induction a with
  | nil => intro p s; simp [quote]
  | cons c l ih =>
    intro p s
    rw [quote, List.append_assoc]
    cases s with
    | nil => rw [M_q1_nil]; simp
    | cons b s =>
      rw [M_q1, ih]
      constructor
      · rintro ⟨rfl, t, rfl, h⟩; exact ⟨t, rfl, h⟩
      · rintro ⟨t, h, h2⟩
        simp only [List.cons_append, List.cons.injEq] at h
        exact ⟨h.1.symm, t, h.2, h2⟩
theorem M_quote_only (a s : List UInt8) : M (quote a) s = true ↔ s = a := by
  have := M_quote a [] s
  rw [List.append_nil] at this
  rw [this]
  constructor
  · rintro ⟨t, rfl, h⟩
    rw [M_nil, List.isEmpty_iff] at h
    subst h; simp
  · rintro rfl; exact ⟨[], by simp, by rw [M_nil]; rfl⟩
theorem M_star (p : List UInt8) : ∀ s : List UInt8, M (42 :: p) s = true ↔ ∃ u t, s = u ++ t ∧ M p t = true := by
  intro s
  induction s with
  | nil =>
    rw [M_star_nil (by decide)]
    constructor
    · intro h; exact ⟨[], [], rfl, h⟩
    · rintro ⟨u, t, h, h2⟩
      have := List.append_eq_nil_iff.1 h.symm
      rw [this.2] at h2; exact h2
  | cons b s ih =>
    rw [M_star_cons (by decide), Bool.or_eq_true, ih]
    constructor
    · rintro (h | ⟨u, t, rfl, h⟩)
      · exact ⟨[], b :: s, rfl, h⟩
      · exact ⟨b :: u, t, rfl, h⟩
    · rintro ⟨u, t, h, h2⟩
      cases u with
      | nil => left; rw [List.nil_append] at h; rw [h]; exact h2
      | cons c u =>
        simp only [List.cons_append, List.cons.injEq] at h
        exact Or.inr ⟨u, t, h.2, h2⟩
theorem M_all (s : List UInt8) : M [42] s = true := (M_star [] s).2 ⟨s, [], by simp, by rw [M_nil]; rfl⟩
theorem M_all2 (s : List UInt8) : M [42, 42] s = true := (M_star [42] s).2 ⟨[], s, rfl, M_all s⟩
theorem M_ends (a b s : List UInt8) : M (quote a ++ 42 :: quote b) s = true ↔ ∃ u, s = a ++ (u ++ b) := by
  rw [M_quote]
  constructor
  · rintro ⟨t, rfl, h⟩
    obtain ⟨u, t2, rfl, h2⟩ := (M_star _ _).1 h
    rw [(M_quote_only b t2).1 h2]
    exact ⟨u, rfl⟩
  · rintro ⟨u, rfl⟩
    exact ⟨u ++ b, rfl, (M_star _ _).2 ⟨u, b, rfl, (M_quote_only b b).2 rfl⟩⟩
theorem ends_iff (a b s : List UInt8) : (∃ u, s = a ++ (u ++ b)) ↔ a.length + b.length ≤ s.length ∧ s.take a.length = a ∧ s.drop (s.length - b.length) = b := by
  constructor
  · rintro ⟨u, rfl⟩
    refine ⟨by simp only [List.length_append]; omega, by simp, ?_⟩
    have : (a ++ (u ++ b)).length - b.length = (a ++ u).length := by simp; omega
    rw [this, ← List.append_assoc, List.drop_left]
  · rintro ⟨h1, h2, h3⟩
    refine ⟨(s.drop a.length).take (s.length - b.length - a.length), ?_⟩
    have e1 : s = s.take a.length ++ s.drop a.length := (List.take_append_drop _ _).symm
    have e2 : s.drop a.length = (s.drop a.length).take (s.length - b.length - a.length) ++ (s.drop a.length).drop (s.length - b.length - a.length) := (List.take_append_drop _ _).symm
    have e3 : (s.drop a.length).drop (s.length - b.length - a.length) = b := by
      rw [List.drop_drop, show a.length + (s.length - b.length - a.length) = s.length - b.length from by omega, h3]
    rw [e3] at e2
    rw [← e2]
    rw [h2] at e1
    exact e1
theorem M_mark (p : List UInt8) (s : List UInt8) : M (63 :: p) s = true ↔ ∃ b t, s = b :: t ∧ M p t = true := by
  cases s with
  | nil => rw [M_none (by decide)]; simp
  | cons b s =>
    rw [M_byte (by decide)]
    have g1 : plen (63 :: p) = 1 := by rw [plen, if_pos (by decide)]
    have g2 : ptak b.toNat (63 :: p) = true := by rw [ptak, if_pos (by decide)]
    rw [g1, g2, Bool.true_and]
    constructor
    · intro h; exact ⟨b, s, rfl, h⟩
    · rintro ⟨c, t, h, h2⟩
      simp only [List.cons.injEq] at h
      rw [← h.2] at h2; exact h2
theorem M_marks (p : List UInt8) (n : Nat) : ∀ s : List UInt8, M (List.replicate n 63 ++ p) s = true ↔ ∃ u t, s = u ++ t ∧ u.length = n ∧ M p t = true := by
  induction n with
  | zero =>
    intro s
    constructor
    · intro h; exact ⟨[], s, rfl, rfl, h⟩
    · rintro ⟨u, t, rfl, h1, h2⟩
      rw [List.length_eq_zero_iff] at h1
      subst h1; exact h2
  | succ n ih =>
    intro s
    rw [List.replicate_succ, List.cons_append, M_mark]
    constructor
    · rintro ⟨b, t, rfl, h⟩
      obtain ⟨u, t2, rfl, h1, h2⟩ := (ih t).1 h
      exact ⟨b :: u, t2, rfl, by simp [h1], h2⟩
    · rintro ⟨u, t, rfl, h1, h2⟩
      cases u with
      | nil => simp at h1
      | cons b u => exact ⟨b, u ++ t, rfl, (ih _).2 ⟨u, t, rfl, by simpa using h1, h2⟩⟩
theorem marks_only (n : Nat) (s : List UInt8) : M (List.replicate n 63) s = decide (s.length = n) := by
  have := M_marks [] n s
  rw [List.append_nil] at this
  rw [Bool.eq_iff_iff, this, decide_eq_true_iff]
  constructor
  · rintro ⟨u, t, rfl, h1, h2⟩
    rw [M_nil, List.isEmpty_iff] at h2
    subst h2; simp [h1]
  · intro h; exact ⟨s, [], by simp, h, by rw [M_nil]; rfl⟩
theorem marks_star (n : Nat) (s : List UInt8) : M (List.replicate n 63 ++ [42]) s = decide (n ≤ s.length) := by
  rw [Bool.eq_iff_iff, M_marks, decide_eq_true_iff]
  constructor
  · rintro ⟨u, t, rfl, h1, h2⟩; simp; omega
  · intro h; exact ⟨s.take n, s.drop n, (List.take_append_drop _ _).symm, by simp; omega, M_all _⟩
theorem star_more {p s : List UInt8} (more : List UInt8) (h : M p s = true) : M (42 :: p) (more ++ s) = true := (M_star p _).2 ⟨more, s, rfl, h⟩
theorem quote_more (s more : List UInt8) : M (quote s ++ [42]) (s ++ more) = true := (M_quote s [42] _).2 ⟨more, rfl, M_all more⟩

theorem plain_quote (l : List UInt8) : plain (quote l) = some l := by
  induction l with
  | nil => simp [quote, plain]
  | cons c l ih =>
    rw [quote, q1]
    split
    · rename_i h
      show plain (92 :: c :: quote l) = _
      rw [plain, if_neg (by decide), if_pos ⟨by decide, by simp⟩]
      show (plain (quote l)).map _ = _
      rw [ih]; rfl
    · rename_i h
      obtain ⟨h1, h2, h3, h4⟩ := isQ_no (by simpa using h)
      show plain (c :: quote l) = _
      have ho : isO c.toNat = false := by simp [isO, h1, h2, h3]
      rw [plain, if_neg (by rw [ho]; decide), if_neg (fun x => h4 x.1), ih]; rfl
end Go.Proofs.Ytaglcpjjekaohaa.LawMath
