/- A reader that goes along bytes, and what it has failed at: against the reading of ValueMath. -/
import Derived.Test.YtdcnkdkhanmklabValueMath
namespace Go.Proofs.Ytdcnkdkhanmklab.ReadMath
open Go.Proofs.Ytdcnkdkhanmklab.SetMath
open Go.Proofs.Ytdcnkdkhanmklab.BytesMath
open Go.Proofs.Ytdcnkdkhanmklab.FixMath
open Go.Proofs.Ytdcnkdkhanmklab.ValueMath
set_option linter.unusedVariables false
abbrev RS := Bs × Bool
def tkS (n : Nat) (s : RS) : Bs × RS := if s.2 = true ∨ s.1.length < n then ([], s.1, true) else (s.1.take n, s.1.drop n, false)
def unN (t : Bs) : Nat := if 1 ≤ t.length ∧ t.length ≤ 8 then leN t else 0
def nbS (w : Nat) (s : RS) : Nat × RS := (unN (tkS w s).1, (tkS w s).2)
def txS (s : RS) : Bs × RS := tkS (nbS 4 s).1 (nbS 4 s).2
def fdS (s : RS) : (Bs × Bs) × RS := (((txS s).1, (txS (txS s).2).1), (txS (txS s).2).2)
def scS (s : RS) : (Bs × Int) × RS := (((txS (nbS 8 s).2).1, IntKind.i64.wrap (nbS 8 s).1), (txS (nbS 8 s).2).2)
theorem tk_bad (n : Nat) (r : Bs) : tkS n (r, true) = ([], r, true) := by unfold tkS; rw [if_pos (Or.inl rfl)]
theorem tk_no {n : Nat} {r : Bs} (f : Bool) (h : r.length < n) : tkS n (r, f) = ([], r, true) := by unfold tkS; rw [if_pos (Or.inr h)]
theorem tk_ok {n : Nat} {r : Bs} (h : n ≤ r.length) : tkS n (r, false) = (r.take n, r.drop n, false) := by
  unfold tkS
  rw [if_neg (by rintro (h1 | h1); cases h1; exact absurd h (by simpa using h1))]
theorem nb_bad (w : Nat) (r : Bs) : nbS w (r, true) = (0, r, true) := by unfold nbS; rw [tk_bad]; rfl
theorem nb_some {w : Nat} {r r' : Bs} {n : Nat} (h1 : 1 ≤ w) (h8 : w ≤ 8) (h : rdN w r = some (n, r')) : nbS w (r, false) = (n, r', false) := by
  unfold rdN at h
  split at h
  · cases h
  · injection h with h
    injection h with e1 e2
    unfold nbS
    rw [tk_ok (by omega)]
    simp only [unN]
    rw [if_pos (by rw [List.length_take]; omega), e1, e2]
theorem nb_none {w : Nat} {r : Bs} (f : Bool) (h : rdN w r = none) : nbS w (r, f) = (0, r, true) := by
  unfold rdN at h
  split at h
  · unfold nbS
    rw [tk_no f (by assumption)]
    rfl
  · cases h
theorem tx_bad (r : Bs) : txS (r, true) = ([], r, true) := by unfold txS; rw [nb_bad]; exact tk_bad 0 r
theorem tx_some {r r' t : Bs} (h : rdT r = some (t, r')) : txS (r, false) = (t, r', false) := by
  unfold rdT at h
  obtain ⟨⟨n, r1⟩, h1, h2⟩ := Option.bind_eq_some_iff.1 h
  unfold txS
  rw [nb_some (by decide) (by decide) h1]
  simp only at h2 ⊢
  unfold rdTk at h2
  split at h2
  · cases h2
  · injection h2 with h2
    injection h2 with e1 e2
    rw [tk_ok (by omega), e1, e2]
theorem tx_none {r : Bs} (h : rdT r = none) : ∃ r', txS (r, false) = ([], r', true) := by
  unfold rdT at h
  unfold txS
  cases e : rdN 4 r with
  | none => rw [nb_none _ e]; exact ⟨r, tk_bad 0 r⟩
  | some q =>
    obtain ⟨n, r1⟩ := q
    rw [e] at h
    rw [nb_some (by decide) (by decide) e]
    change rdTk n r1 = none at h
    unfold rdTk at h
    split at h
    · exact ⟨r1, tk_no false (by assumption)⟩
    · cases h
theorem fd_some {r r' : Bs} {p : Bs × Bs} (h : rdF r = some (p, r')) : fdS (r, false) = (p, r', false) := by
  unfold rdF at h
  obtain ⟨⟨a, r1⟩, h1, h2⟩ := Option.bind_eq_some_iff.1 h
  obtain ⟨⟨b, r2⟩, h3, h4⟩ := Option.bind_eq_some_iff.1 h2
  injection h4 with h4
  injection h4 with h5 h6
  simp only at h3 h5 h6
  unfold fdS
  rw [tx_some h1]
  simp only
  rw [tx_some h3, ← h5, ← h6]
theorem fd_none {r : Bs} (h : rdF r = none) : ∃ p r', fdS (r, false) = (p, r', true) := by
  unfold rdF at h
  unfold fdS
  cases e : rdT r with
  | none =>
    obtain ⟨r1, h1⟩ := tx_none e
    rw [h1]
    simp only
    rw [tx_bad]
    exact ⟨_, _, rfl⟩
  | some q =>
    obtain ⟨a, r1⟩ := q
    rw [e] at h
    rw [tx_some e]
    simp only
    cases e2 : rdT r1 with
    | none =>
      obtain ⟨r2, h2⟩ := tx_none e2
      rw [h2]
      exact ⟨_, _, rfl⟩
    | some q2 =>
      change ((rdT r1).bind _) = none at h
      rw [e2] at h
      cases h
theorem sc_some {r r' : Bs} {p : Bs × Int} (h : rdE r = some (p, r')) : scS (r, false) = (p, r', false) := by
  unfold rdE at h
  obtain ⟨⟨a, r1⟩, h1, h2⟩ := Option.bind_eq_some_iff.1 h
  obtain ⟨⟨b, r2⟩, h3, h4⟩ := Option.bind_eq_some_iff.1 h2
  injection h4 with h4
  injection h4 with h5 h6
  simp only at h3 h5 h6
  unfold scS
  rw [nb_some (by decide) (by decide) h1]
  simp only
  rw [tx_some h3, ← h5, ← h6]
theorem sc_none {r : Bs} (h : rdE r = none) : ∃ p r', scS (r, false) = (p, r', true) := by
  unfold rdE at h
  unfold scS
  cases e : rdN 8 r with
  | none =>
    rw [nb_none _ e]
    simp only
    rw [tx_bad]
    exact ⟨_, _, rfl⟩
  | some q =>
    obtain ⟨a, r1⟩ := q
    rw [e] at h
    rw [nb_some (by decide) (by decide) e]
    simp only
    cases e2 : rdT r1 with
    | none =>
      obtain ⟨r2, h2⟩ := tx_none e2
      rw [h2]
      exact ⟨_, _, rfl⟩
    | some q2 =>
      change ((rdT r1).bind _) = none at h
      rw [e2] at h
      cases h
/- what is left is an end of what there was -/
theorem tk_le (n : Nat) (s : RS) : (tkS n s).2.1.length ≤ s.1.length ∧ (tkS n s).1.length ≤ s.1.length := by
  unfold tkS
  split
  · simp
  · simp; omega
theorem nb_le (w : Nat) (s : RS) : (nbS w s).2.1.length ≤ s.1.length := (tk_le w s).1
theorem tx_le (s : RS) : (txS s).2.1.length ≤ s.1.length ∧ (txS s).1.length ≤ s.1.length := by
  have h1 := tk_le (nbS 4 s).1 (nbS 4 s).2
  have h2 := nb_le 4 s
  unfold txS
  omega
theorem nb_lt (w : Nat) (s : RS) (hw : w ≤ 8) : (nbS w s).1 < 256 ^ w := by
  unfold nbS unN
  have h1 : (tkS w s).1.length ≤ w := by
    unfold tkS
    split
    · simp
    · simp; omega
  have h2 := leN_lt (tkS w s).1
  have h3 : 256 ^ (tkS w s).1.length ≤ 256 ^ w := Nat.pow_le_pow_right (by omega) h1
  have h4 : 0 < 256 ^ w := Nat.pow_pos (by omega)
  simp only
  split
  · omega
  · exact h4
end Go.Proofs.Ytdcnkdkhanmklab.ReadMath
