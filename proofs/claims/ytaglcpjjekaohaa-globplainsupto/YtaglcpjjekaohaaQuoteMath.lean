/- Quoted texts and plain patterns, in plain terms over lists of bytes. -/
import Derived.Test.YtaglcpjjekaohaaMath
namespace Go.Proofs.Ytaglcpjjekaohaa.QuoteMath
open Go.Proofs.Ytaglcpjjekaohaa.Math
set_option linter.unusedVariables false

def isO (c : Nat) : Bool := c == 42 || (c == 63 || c == 91)
def isQ (c : Nat) : Bool := isO c || c == 92
def q1 (c : UInt8) : List UInt8 := if isQ c.toNat = true then [92, c] else [c]
def quote : List UInt8 → List UInt8
  | [] => []
  | c :: l => q1 c ++ quote l
theorem quote_append (a b : List UInt8) : quote (a ++ b) = quote a ++ quote b := by
  induction a with
  | nil => rfl
  | cons c l ih => simp only [List.cons_append, quote, ih, List.append_assoc]
theorem quote_snoc (a : List UInt8) (c : UInt8) : quote (a ++ [c]) = quote a ++ q1 c := by
  rw [quote_append]; simp [quote]
theorem q1_len (c : UInt8) : (q1 c).length ≤ 2 := by unfold q1; split <;> simp
theorem quote_len (a : List UInt8) : (quote a).length ≤ 2 * a.length := by
  induction a with
  | nil => simp [quote]
  | cons c l ih =>
    have := q1_len c
    simp only [quote, List.length_append, List.length_cons]; omega
theorem quote_ge (a : List UInt8) : a.length ≤ (quote a).length := by
  induction a with
  | nil => simp
  | cons c l ih =>
    have : 1 ≤ (q1 c).length := by unfold q1; split <;> simp
    simp only [quote, List.length_append, List.length_cons]; omega

/-- The one text that a pattern means, if none of its pieces is open. -/
def plain : List UInt8 → Option (List UInt8)
  | [] => some []
  | a :: l =>
    if isO a.toNat = true then none
    else if a.toNat = 92 ∧ l ≠ [] then (plain (l.drop 1)).map (l.headD 0 :: ·)
    else (plain l).map (a :: ·)
  termination_by l => l.length
  decreasing_by all_goals (simp only [List.length_drop, List.length_cons]; omega)
def pS (p : List UInt8) : ByteArray := ⟨((plain p).getD []).toArray⟩
def pB (p : List UInt8) : Bool := (plain p).isSome

/-- What is left of the pattern from place i on. -/
def PL (p : ByteArray) (i : Nat) : Option (List UInt8) := plain ((bs p).drop i)
theorem PL_end {p : ByteArray} {i : Nat} (h : p.size ≤ i) : PL p i = some [] := by unfold PL; rw [drop_end p i h, plain]
theorem PL_open {p : ByteArray} {i : Nat} (h : i < p.size) (e : isO p[i].toNat = true) : PL p i = none := by unfold PL; rw [drop_cons p i h, plain, if_pos e]
theorem PL_esc {p : ByteArray} {i : Nat} (h : i + 1 < p.size) (e : p[i].toNat = 92) : PL p i = (PL p (i + 2)).map (p[i + 1] :: ·) := by
  unfold PL
  rw [drop_cons p i (by omega), plain, if_neg (by rw [e]; decide), if_pos ⟨e, (drop_ne p _).2 h⟩, List.drop_drop, drop_hd p _ h]
theorem PL_one {p : ByteArray} {i : Nat} (h : i < p.size) (e : isO p[i].toNat = false) (e2 : ¬ (p[i].toNat = 92 ∧ i + 1 < p.size)) : PL p i = (PL p (i + 1)).map (p[i] :: ·) := by
  unfold PL
  rw [drop_cons p i h, plain, if_neg (by rw [e]; decide), if_neg (fun x => e2 ⟨x.1, (drop_ne p _).1 x.2⟩)]
/-- acc is what was read ahead of place i. -/
def ReadTo (p : ByteArray) (acc : List UInt8) (i : Nat) : Prop := plain (bs p) = (PL p i).map (acc ++ ·) ∧ acc.length ≤ i
theorem read_start (p : ByteArray) : ReadTo p [] 0 := ⟨by unfold PL; simp, Nat.le_refl _⟩
theorem read_open {p : ByteArray} {acc : List UInt8} {i : Nat} (R : ReadTo p acc i) (h : i < p.size) (e : isO p[i].toNat = true) : plain (bs p) = none := by rw [R.1, PL_open h e]; rfl
theorem map_next (o : Option (List UInt8)) (acc : List UInt8) (c : UInt8) : (o.map (c :: ·)).map (acc ++ ·) = o.map ((acc ++ [c]) ++ ·) := by cases o <;> simp
theorem read_esc {p : ByteArray} {acc : List UInt8} {i : Nat} (R : ReadTo p acc i) (h : i + 1 < p.size) (e : p[i].toNat = 92) : ReadTo p (acc ++ [p[i + 1]]) (i + 2) :=
  ⟨by rw [R.1, PL_esc h e, map_next], by have := R.2; simp; omega⟩
theorem read_one {p : ByteArray} {acc : List UInt8} {i : Nat} (R : ReadTo p acc i) (h : i < p.size) (e : isO p[i].toNat = false) (e2 : ¬ (p[i].toNat = 92 ∧ i + 1 < p.size)) : ReadTo p (acc ++ [p[i]]) (i + 1) :=
  ⟨by rw [R.1, PL_one h e e2, map_next], by have := R.2; simp; omega⟩
theorem read_end {p : ByteArray} {acc : List UInt8} {i : Nat} (R : ReadTo p acc i) (h : p.size ≤ i) : plain (bs p) = some acc := by rw [R.1, PL_end h]; simp
theorem take_snoc (s : ByteArray) (k : Nat) (h : k < s.size) : (bs s).take (k + 1) = (bs s).take k ++ [s[k]] := by
  rw [List.take_succ_eq_append_getElem (by rw [bs_len]; exact h)]; rfl
theorem take_all (s : ByteArray) (k : Nat) (h : s.size ≤ k) : (bs s).take k = bs s := List.take_of_length_le (by rw [bs_len]; exact h)
end Go.Proofs.Ytaglcpjjekaohaa.QuoteMath
