/- Texts as lists of bytes, and their bits: counted, found, laid over, joined: no program is met here. -/
import Derived.RowKit
namespace Go.Proofs.YtdkdjgpeeglbhaaDoor.BlobMath
set_option linter.unusedVariables false
set_option linter.unusedSimpArgs false

/-- a byte of a text, 0 behind its end -/
def at8 (l : List UInt8) (k : Nat) : Nat := (l.getD k 0).toNat
theorem at8_lt (l : List UInt8) (k : Nat) : at8 l k < 256 := (l.getD k 0).toNat_lt
theorem at8_in {l : List UInt8} {k : Nat} (h : k < l.length) : at8 l k = l[k].toNat := by
  unfold at8; simp [List.getD, h]
theorem at8_out {l : List UInt8} {k : Nat} (h : l.length ≤ k) : at8 l k = 0 := by
  unfold at8; simp [List.getD, h]
def bitB (c j : Nat) : Nat := c / 2 ^ (7 - j) % 2
def bitAt (l : List UInt8) (i : Nat) : Nat := bitB (at8 l (i / 8)) (i % 8)
theorem bitB_lt (c j : Nat) : bitB c j < 2 := Nat.mod_lt _ (by omega)
theorem bitAt_lt (l : List UInt8) (i : Nat) : bitAt l i < 2 := bitB_lt _ _
theorem bitAt_out {l : List UInt8} {i : Nat} (h : l.length ≤ i / 8) : bitAt l i = 0 := by
  unfold bitAt; rw [at8_out h]; simp [bitB]
def pc (c : Nat) : Nat := bitB c 0 + bitB c 1 + bitB c 2 + bitB c 3 + bitB c 4 + bitB c 5 + bitB c 6 + bitB c 7
theorem pc_le (c : Nat) : pc c ≤ 8 := by
  unfold pc
  have := bitB_lt c 0; have := bitB_lt c 1; have := bitB_lt c 2; have := bitB_lt c 3; have := bitB_lt c 4; have := bitB_lt c 5; have := bitB_lt c 6; have := bitB_lt c 7
  omega

/-! ### counting -/
def sumBits (l : List UInt8) (a : Nat) : Nat → Nat
  | 0 => 0
  | n + 1 => sumBits l a n + bitAt l (a + n)
def sumPc (l : List UInt8) (a : Nat) : Nat → Nat
  | 0 => 0
  | n + 1 => sumPc l a n + pc (at8 l (a + n))
theorem bitAt_8 (l : List UInt8) (k j : Nat) (h : j < 8) : bitAt l (8 * k + j) = bitB (at8 l k) j := by
  unfold bitAt; rw [show (8 * k + j) / 8 = k by omega, show (8 * k + j) % 8 = j by omega]
theorem sum_eq (l : List UInt8) (f : Nat) : ∀ n, sumBits l (8 * f) (8 * n) = sumPc l f n
  | 0 => rfl
  | n + 1 => by
    have ih := sum_eq l f n
    show sumBits l (8 * f) (8 * n + 8) = _
    simp only [sumBits, sumPc, ih]
    rw [show 8 * f + 8 * n = 8 * (f + n) + 0 by omega, show 8 * f + (8 * n + 1) = 8 * (f + n) + 1 by omega, show 8 * f + (8 * n + 2) = 8 * (f + n) + 2 by omega,
      show 8 * f + (8 * n + 3) = 8 * (f + n) + 3 by omega, show 8 * f + (8 * n + 4) = 8 * (f + n) + 4 by omega, show 8 * f + (8 * n + 5) = 8 * (f + n) + 5 by omega,
      show 8 * f + (8 * n + 6) = 8 * (f + n) + 6 by omega, show 8 * f + (8 * n + 7) = 8 * (f + n) + 7 by omega]
    rw [bitAt_8 _ _ _ (by omega), bitAt_8 _ _ _ (by omega), bitAt_8 _ _ _ (by omega), bitAt_8 _ _ _ (by omega), bitAt_8 _ _ _ (by omega), bitAt_8 _ _ _ (by omega), bitAt_8 _ _ _ (by omega), bitAt_8 _ _ _ (by omega)]
    unfold pc; omega
theorem sumBits_le (l : List UInt8) (a : Nat) : ∀ n, sumBits l a n ≤ n
  | 0 => Nat.le_refl _
  | n + 1 => by have := sumBits_le l a n; have := bitAt_lt l (a + n); simp only [sumBits]; omega
theorem sumPc_le (l : List UInt8) (a : Nat) : ∀ n, sumPc l a n ≤ 8 * n
  | 0 => Nat.le_refl _
  | n + 1 => by have := sumPc_le l a n; have := pc_le (at8 l (a + n)); simp only [sumPc]; omega

/-! ### the first bit -/
def FirstIs (l : List UInt8) (v a b : Nat) (r : Int) : Prop :=
  (r = -1 ∧ ∀ i, a ≤ i → i < b → bitAt l i ≠ v) ∨ ∃ k : Nat, r = (k : Int) ∧ a ≤ k ∧ k < b ∧ bitAt l k = v ∧ ∀ i, a ≤ i → i < k → bitAt l i ≠ v
theorem FirstIs.unique {l : List UInt8} {v a b : Nat} {r s : Int} (h : FirstIs l v a b r) (k : FirstIs l v a b s) : r = s := by
  rcases h with ⟨rfl, h⟩ | ⟨i, rfl, h1, h2, h3, h4⟩ <;> rcases k with ⟨rfl, k⟩ | ⟨j, rfl, k1, k2, k3, k4⟩
  · rfl
  · exact absurd k3 (h j k1 k2)
  · exact absurd h3 (k i h1 h2)
  · rcases Nat.lt_trichotomy i j with q | q | q
    · exact absurd h3 (k4 i h1 q)
    · rw [q]
    · exact absurd k3 (h4 j k1 q)
theorem FirstIs.ex (l : List UInt8) (v a b : Nat) : ∃ r, FirstIs l v a b r := by
  by_cases h : ∃ n, a ≤ n ∧ n < b ∧ bitAt l n = v
  · have : ∀ m, (∃ n, n < m ∧ a ≤ n ∧ n < b ∧ bitAt l n = v) → ∃ k, a ≤ k ∧ k < b ∧ bitAt l k = v ∧ ∀ i, a ≤ i → i < k → bitAt l i ≠ v := by
      intro m
      induction m with
      | zero => rintro ⟨n, h, _⟩; omega
      | succ m ih =>
        rintro ⟨n, h0, h1, h2, h3⟩
        by_cases q : ∃ n, n < m ∧ a ≤ n ∧ n < b ∧ bitAt l n = v
        · exact ih q
        · exact ⟨n, h1, h2, h3, fun i i1 i2 i3 => q ⟨i, by omega, i1, by omega, i3⟩⟩
    obtain ⟨n, h1, h2, h3⟩ := h
    obtain ⟨k, k1, k2, k3, k4⟩ := this (n + 1) ⟨n, by omega, h1, h2, h3⟩
    exact ⟨k, .inr ⟨k, rfl, k1, k2, k3, k4⟩⟩
  · exact ⟨-1, .inl ⟨rfl, fun i i1 i2 i3 => h ⟨i, i1, i2, i3⟩⟩⟩
theorem FirstIs.bd {l : List UInt8} {v a b : Nat} {r : Int} (h : FirstIs l v a b r) : -1 ≤ r ∧ r < b ∨ r = -1 := by
  rcases h with ⟨rfl, h⟩ | ⟨i, rfl, h1, h2, h3, h4⟩
  · right; rfl
  · left; omega
/-- the least bit of a byte -/
def lz (c : Nat) : Nat := if 128 ≤ c then 0 else if 64 ≤ c then 1 else if 32 ≤ c then 2 else if 16 ≤ c then 3 else if 8 ≤ c then 4 else if 4 ≤ c then 5 else if 2 ≤ c then 6 else if 1 ≤ c then 7 else 8
def hitB (v c : Nat) : Bool := let j := lz (c ^^^ (255 * (1 - v))); (c == 255 * (1 - v)) || (decide (j < 8) && (bitB c j == v) && (List.range j).all (fun i => bitB c i != v))
theorem hit_all : (List.range 256).all (fun c => hitB 0 c && hitB 1 c) = true := by decide +kernel
def noB (v : Nat) : Bool := (List.range 8).all (fun i => bitB (255 * (1 - v)) i != v)
theorem hit_of {v c : Nat} (hv : v < 2) (hc : c < 256) (hn : c ≠ 255 * (1 - v)) : lz (c ^^^ (255 * (1 - v))) < 8 ∧ bitB c (lz (c ^^^ (255 * (1 - v)))) = v ∧ ∀ i, i < lz (c ^^^ (255 * (1 - v))) → bitB c i ≠ v := by
  have h := List.all_eq_true.1 hit_all c (List.mem_range.2 hc)
  rw [Bool.and_eq_true] at h
  have hb : hitB v c = true := by
    rcases (show v = 0 ∨ v = 1 by omega) with rfl | rfl
    · exact h.1
    · exact h.2
  unfold hitB at hb
  simp only [Bool.or_eq_true, Bool.and_eq_true, beq_iff_eq, decide_eq_true_eq, List.all_eq_true, bne_iff_ne] at hb
  rcases hb with hb | hb
  · exact absurd hb hn
  · exact ⟨hb.1.1, hb.1.2, fun i hi => hb.2 i (List.mem_range.2 hi)⟩
theorem no_of {v i : Nat} (hv : v < 2) (hi : i < 8) : bitB (255 * (1 - v)) i ≠ v := by
  have : noB 0 = true ∧ noB 1 = true := by decide
  have hb : noB v = true := by
    rcases (show v = 0 ∨ v = 1 by omega) with rfl | rfl
    · exact this.1
    · exact this.2
  unfold noB at hb
  rw [List.all_eq_true] at hb
  simpa using hb i (List.mem_range.2 hi)
/-- no bit so far -/
def NoBit (l : List UInt8) (v a b : Nat) : Prop := ∀ i, a ≤ i → i < b → bitAt l i ≠ v
theorem NoBit.zero (l : List UInt8) (v a : Nat) : NoBit l v a a := fun i h1 h2 => by omega
theorem NoBit.next {l : List UInt8} {v a b : Nat} (h : NoBit l v a b) (hb : bitAt l b ≠ v) : NoBit l v a (b + 1) := by
  intro i h1 h2
  rcases (show i < b ∨ i = b by omega) with q | rfl
  · exact h i h1 q
  · exact hb
theorem NoBit.byte {l : List UInt8} {v f k : Nat} (hv : v < 2) (h : NoBit l v (8 * f) (8 * k)) (hb : at8 l k = 255 * (1 - v)) : NoBit l v (8 * f) (8 * (k + 1)) := by
  intro i h1 h2
  by_cases q : i < 8 * k
  · exact h i h1 q
  · obtain ⟨j, rfl⟩ : ∃ j, i = 8 * k + j := ⟨i - 8 * k, by omega⟩
    rw [bitAt_8 _ _ _ (by omega), hb]
    exact no_of hv (by omega)
theorem NoBit.hit {l : List UInt8} {v f k e : Nat} (hv : v < 2) (h : NoBit l v (8 * f) (8 * k)) (hfk : f ≤ k) (hk : k < e) (hb : at8 l k ≠ 255 * (1 - v)) : FirstIs l v (8 * f) (8 * e) ((8 * k + lz (at8 l k ^^^ (255 * (1 - v))) : Nat) : Int) := by
  obtain ⟨a, b, c⟩ := hit_of hv (at8_lt l k) hb
  refine .inr ⟨_, rfl, by omega, by omega, ?_, ?_⟩
  · rw [bitAt_8 _ _ _ a]; exact b
  · intro i h1 h2
    by_cases q : i < 8 * k
    · exact h i h1 q
    · obtain ⟨j, rfl⟩ : ∃ j, i = 8 * k + j := ⟨i - 8 * k, by omega⟩
      rw [bitAt_8 _ _ _ (by omega)]
      exact c j (by omega)
theorem NoBit.none {l : List UInt8} {v a b : Nat} (h : NoBit l v a b) : FirstIs l v a b (-1) := .inl ⟨rfl, h⟩
theorem NoBit.found {l : List UInt8} {v a b k : Nat} (h : NoBit l v a k) (h1 : a ≤ k) (h2 : k < b) (hb : bitAt l k = v) : FirstIs l v a b (k : Int) := .inr ⟨k, rfl, h1, h2, hb, h⟩

/-! ### places -/
def fr (n : Nat) (p : Int) : Int := if p < 0 then n + p else p
def spA (n : Nat) (f t : Int) : Nat := if min (fr n t) (n - 1) + 1 < max (fr n f) 0 then 0 else (max (fr n f) 0).toNat
def spB (n : Nat) (f t : Int) : Nat := if min (fr n t) (n - 1) + 1 < max (fr n f) 0 then 0 else (min (fr n t) (n - 1) + 1).toNat
theorem sp_le (n : Nat) (f t : Int) : spA n f t ≤ spB n f t ∧ spB n f t ≤ n := by
  unfold spA spB; split
  · omega
  · rename_i h
    have : (0 : Int) ≤ max (fr n f) 0 := by omega
    omega

/-! ### laid over -/
def pad (l : List UInt8) (n : Nat) : List UInt8 := l ++ List.replicate (n - l.length) 0
theorem pad_len (l : List UInt8) (n : Nat) : (pad l n).length = max l.length n := by unfold pad; simp; omega
theorem pad_at (l : List UInt8) (n k : Nat) : at8 (pad l n) k = at8 l k := by
  unfold pad
  by_cases h : k < l.length
  · rw [at8_in h, at8_in (by simp; omega)]; simp [h]
  · rw [at8_out (l := l) (by omega)]
    unfold at8
    simp only [List.getD, List.getElem?_append_right (show l.length ≤ k by omega)]
    by_cases q : k - l.length < n - l.length
    · simp [q]
    · simp [q]
theorem ext8 {l m : List UInt8} (h : l.length = m.length) (k : ∀ i, i < l.length → at8 l i = at8 m i) : l = m := by
  apply List.ext_getElem h
  intro i h1 h2
  have := k i h1
  rw [at8_in h1, at8_in h2] at this
  exact UInt8.toNat_inj.1 this
def over (l : List UInt8) (a : Nat) (t : List UInt8) : List UInt8 := (pad l (a + t.length)).take a ++ t ++ (pad l (a + t.length)).drop (a + t.length)
theorem over_len (l : List UInt8) (a : Nat) (t : List UInt8) : (over l a t).length = max l.length (a + t.length) := by
  unfold over; have := pad_len l (a + t.length); simp; omega
end Go.Proofs.YtdkdjgpeeglbhaaDoor.BlobMath
