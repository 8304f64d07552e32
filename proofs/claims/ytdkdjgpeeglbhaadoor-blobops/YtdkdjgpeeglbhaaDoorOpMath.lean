/- Texts joined bit by bit: no program is met here. -/
import Derived.Test.YtdkdjgpeeglbhaaDoorBlobMath
namespace Go.Proofs.YtdkdjgpeeglbhaaDoor.BlobMath
set_option linter.unusedVariables false
set_option linter.unusedSimpArgs false

def txt (s : ByteArray) : List UInt8 := s.data.toList
def opN (op a b : Nat) : Nat := if op = 1 then a &&& b else if op = 2 then a ||| b else a ^^^ b
theorem opN_lt (op : Nat) {a b : Nat} (ha : a < 256) (hb : b < 256) : opN op a b < 256 := by
  unfold opN
  split
  · exact Nat.and_lt_two_pow a (n := 8) hb
  · split
    · exact Nat.or_lt_two_pow (n := 8) ha hb
    · exact Nat.xor_lt_two_pow (n := 8) ha hb
theorem opN_zero {op : Nat} (h : op ≠ 1) (a : Nat) : opN op a 0 = a := by
  unfold opN; rw [if_neg h]; split <;> simp
theorem and_zero (a : Nat) : opN 1 a 0 = 0 := by simp [opN]
theorem and_zero' (a : Nat) : opN 1 0 a = 0 := by simp [opN]
/-- a list of texts, its i-th one -/
def tx (l : List ByteArray) (i : Nat) : List UInt8 := txt (l.getD i ByteArray.empty)
/-- byte k of the first i texts, joined -/
def acc (op k : Nat) (l : List ByteArray) : Nat → Nat
  | 0 => 0
  | i + 1 => if i = 0 then at8 (tx l 0) k else opN op (acc op k l i) (at8 (tx l i) k)
theorem acc_lt (op k : Nat) (l : List ByteArray) : ∀ i, acc op k l i < 256
  | 0 => by simp [acc]
  | i + 1 => by
    unfold acc; split
    · exact at8_lt _ _
    · exact opN_lt op (acc_lt op k l i) (at8_lt _ _)
def mx (l : List ByteArray) : Nat → Nat
  | 0 => 0
  | i + 1 => max (mx l i) (tx l i).length
def mn (l : List ByteArray) : Nat → Nat
  | 0 => 0
  | i + 1 => if i = 0 then (tx l 0).length else min (mn l i) (tx l i).length
theorem mx_le (l : List ByteArray) (j : Nat) : ∀ i, j < i → (tx l j).length ≤ mx l i
  | 0, h => by omega
  | i + 1, h => by
    unfold mx
    rcases (show j < i ∨ j = i by omega) with q | rfl
    · have := mx_le l j i q; omega
    · omega
theorem mn_le (l : List ByteArray) (j : Nat) : ∀ i, j < i → mn l i ≤ (tx l j).length
  | 0, h => by omega
  | i + 1, h => by
    unfold mn
    split
    · have : j = 0 := by omega
      subst this; exact Nat.le_refl _
    · rcases (show j < i ∨ j = i by omega) with q | rfl
      · have := mn_le l j i q; omega
      · omega
theorem mn_mx (l : List ByteArray) (i : Nat) (h : 0 < i) : mn l i ≤ mx l i := Nat.le_trans (mn_le l 0 i h) (mx_le l 0 i h)
theorem mn_hit (l : List ByteArray) : ∀ i, 0 < i → ∃ j, j < i ∧ mn l i = (tx l j).length
  | 0, h => by omega
  | i + 1, h => by
    unfold mn
    split
    · exact ⟨0, by omega, rfl⟩
    · obtain ⟨j, hj, e⟩ := mn_hit l i (by omega)
      rcases (show mn l i ≤ (tx l i).length ∨ (tx l i).length ≤ mn l i by omega) with q | q
      · exact ⟨j, by omega, by omega⟩
      · exact ⟨i, by omega, by omega⟩
theorem and_dead (k : Nat) (l : List ByteArray) : ∀ i j, j < i → (tx l j).length ≤ k → acc 1 k l i = 0
  | 0, j, h, _ => by omega
  | i + 1, j, h, hk => by
    unfold acc
    split
    · have : j = 0 := by omega
      subst this; exact at8_out hk
    · rcases (show j < i ∨ j = i by omega) with q | rfl
      · rw [and_dead k l i j q hk]; exact and_zero' _
      · rw [at8_out hk]; exact and_zero _
/-- the document's answer -/
def opS (op : Nat) (l : List ByteArray) : List UInt8 := (List.range (mx l l.length)).map (fun k => UInt8.ofNat (if op = 4 then 255 - acc op k l l.length else acc op k l l.length))
theorem opS_len (op : Nat) (l : List ByteArray) : (opS op l).length = mx l l.length := by simp [opS]
theorem opS_at {op k : Nat} {l : List ByteArray} (h : k < mx l l.length) : at8 (opS op l) k = if op = 4 then 255 - acc op k l l.length else acc op k l l.length := by
  rw [at8_in (by rw [opS_len]; exact h)]
  have := acc_lt op k l l.length
  simp only [opS, List.getElem_map, List.getElem_range]
  rw [UInt8.toNat_ofNat']
  split <;> omega
/-- the code's way: text by text, each as far as it goes -/
def joinN (op : Nat) (out t : List UInt8) : Nat → List UInt8
  | 0 => out
  | i + 1 => (joinN op out t i).set i (UInt8.ofNat (opN op (at8 (joinN op out t i) i) (at8 t i)))
theorem joinN_len (op : Nat) (out t : List UInt8) : ∀ i, (joinN op out t i).length = out.length
  | 0 => rfl
  | i + 1 => by simp [joinN, joinN_len op out t i]
theorem at8_set {l : List UInt8} {k : Nat} (h : k < l.length) (c : UInt8) (j : Nat) : at8 (l.set k c) j = if j = k then c.toNat else at8 l j := by
  unfold at8
  by_cases q : j = k
  · subst q; simp [List.getD, h]
  · rw [if_neg q]
    simp [List.getD, List.getElem?_set_ne (Ne.symm q)]
theorem joinN_at (op : Nat) (out t : List UInt8) (k : Nat) : ∀ i, i ≤ out.length → at8 (joinN op out t i) k = if k < i then opN op (at8 out k) (at8 t k) else at8 out k
  | 0, _ => by simp [joinN]
  | i + 1, h => by
    have e := joinN_at op out t k i (by omega)
    rw [joinN, at8_set (by rw [joinN_len]; omega)]
    by_cases q : k = i
    · subst q
      rw [if_neg (by omega)] at e
      rw [if_pos rfl, if_pos (by omega), e]
      have := opN_lt op (at8_lt out k) (at8_lt t k)
      rw [UInt8.toNat_ofNat']; omega
    · rw [if_neg q, e]
      by_cases r : k < i
      · rw [if_pos r, if_pos (by omega)]
      · rw [if_neg r, if_neg (by omega)]
def accL (op : Nat) (l : List ByteArray) (n : Nat) : Nat → List UInt8
  | 0 => pad (tx l 0) n
  | i + 1 => joinN op (accL op l n i) (tx l (i + 1)) (tx l (i + 1)).length
theorem accL_len (op : Nat) (l : List ByteArray) (n : Nat) (h : (tx l 0).length ≤ n) : ∀ i, (accL op l n i).length = n
  | 0 => by unfold accL; rw [pad_len]; omega
  | i + 1 => by unfold accL; rw [joinN_len]; exact accL_len op l n h i
theorem accL_or {op : Nat} (ho : op ≠ 1) (l : List ByteArray) (k : Nat) : ∀ i, i < l.length → at8 (accL op l (mx l l.length) i) k = acc op k l (i + 1)
  | 0, h => by unfold accL; rw [pad_at]; simp [acc]
  | i + 1, h => by
    have hl := mx_le l (i + 1) l.length h
    unfold accL
    rw [joinN_at op _ _ _ _ (by rw [accL_len _ _ _ (mx_le l 0 l.length (by omega))]; exact hl), accL_or ho l k i (by omega)]
    rw [show acc op k l (i + 1 + 1) = opN op (acc op k l (i + 1)) (at8 (tx l (i + 1)) k) by rw [acc, if_neg (by omega)]]
    split
    · rfl
    · rename_i q; rw [at8_out (l := tx l (i + 1)) (by omega), opN_zero ho]
theorem accL_and (l : List ByteArray) (k : Nat) (hk : k < mn l l.length) : ∀ i, i < l.length → at8 (accL 1 l (mx l l.length) i) k = acc 1 k l (i + 1)
  | 0, h => by unfold accL; rw [pad_at]; simp [acc]
  | i + 1, h => by
    have hl := mx_le l (i + 1) l.length h
    have hm := mn_le l (i + 1) l.length h
    unfold accL
    rw [joinN_at 1 _ _ _ _ (by rw [accL_len _ _ _ (mx_le l 0 l.length (by omega))]; exact hl), accL_and l k hk i (by omega)]
    rw [show acc 1 k l (i + 1 + 1) = opN 1 (acc 1 k l (i + 1)) (at8 (tx l (i + 1)) k) by rw [acc, if_neg (by omega)], if_pos (by omega)]
def zeroed (l : List UInt8) (n : Nat) : List UInt8 := l.take n ++ List.replicate (l.length - n) 0
theorem zeroed_len (l : List UInt8) (n : Nat) (h : n ≤ l.length) : (zeroed l n).length = l.length := by simp [zeroed]; omega
theorem zeroed_at (l : List UInt8) (n k : Nat) (h : n ≤ l.length) : at8 (zeroed l n) k = if k < n then at8 l k else 0 := by
  unfold zeroed at8
  simp only [List.getD]
  by_cases q : k < n
  · rw [if_pos q, List.getElem?_append_left (by simp; omega), List.getElem?_take_of_lt q]
  · rw [if_neg q, List.getElem?_append_right (by simp; omega)]
    by_cases r : k - (l.take n).length < l.length - n
    · rw [List.getElem?_replicate_of_lt r]; rfl
    · rw [List.getElem?_eq_none (by rw [List.length_replicate]; omega)]; rfl
theorem op_and (l : List ByteArray) (h : 0 < l.length) : zeroed (accL 1 l (mx l l.length) (l.length - 1)) (mn l l.length) = opS 1 l := by
  have e := accL_len 1 l (mx l l.length) (mx_le l 0 l.length h) (l.length - 1)
  have hm := mn_mx l l.length h
  refine ext8 (by rw [zeroed_len _ _ (by omega), e, opS_len]) fun k hk => ?_
  rw [zeroed_len _ _ (by omega), e] at hk
  rw [zeroed_at _ _ _ (by omega), opS_at hk, if_neg (show ¬ (1 = 4) by omega)]
  split
  · rename_i q
    have := accL_and l k q (l.length - 1) (by omega)
    rwa [show l.length - 1 + 1 = l.length by omega] at this
  · rename_i q
    obtain ⟨j, hj, ej⟩ := mn_hit l l.length h
    exact (and_dead k l l.length j hj (by omega)).symm
theorem op_or {op : Nat} (ho : op ≠ 1) (h4 : op ≠ 4) (l : List ByteArray) (h : 0 < l.length) : accL op l (mx l l.length) (l.length - 1) = opS op l := by
  have e := accL_len op l (mx l l.length) (mx_le l 0 l.length h) (l.length - 1)
  refine ext8 (by rw [e, opS_len]) fun k hk => ?_
  rw [e] at hk
  rw [opS_at hk, if_neg h4]
  have := accL_or ho l k (l.length - 1) (by omega)
  rwa [show l.length - 1 + 1 = l.length by omega] at this
def turned (l : List UInt8) : Nat → List UInt8
  | 0 => l
  | i + 1 => (turned l i).set i (UInt8.ofNat (255 - at8 l i))
theorem turned_len (l : List UInt8) : ∀ i, (turned l i).length = l.length
  | 0 => rfl
  | i + 1 => by simp [turned, turned_len l i]
theorem turned_at (l : List UInt8) (k : Nat) : ∀ i, i ≤ l.length → at8 (turned l i) k = if k < i then 255 - at8 l k else at8 l k
  | 0, _ => by simp [turned]
  | i + 1, h => by
    have ih := turned_at l k i (by omega)
    rw [turned, at8_set (by rw [turned_len]; omega)]
    by_cases q : k = i
    · subst q
      rw [if_pos rfl, if_pos (by omega), UInt8.toNat_ofNat']; omega
    · rw [if_neg q, ih]
      by_cases r : k < i
      · rw [if_pos r, if_pos (by omega)]
      · rw [if_neg r, if_neg (by omega)]
theorem op_not (l : List ByteArray) (h : l.length = 1) : turned (accL 4 l (mx l l.length) 0) (mx l l.length) = opS 4 l := by
  have e := accL_len 4 l (mx l l.length) (mx_le l 0 l.length (by omega)) 0
  refine ext8 (by rw [turned_len, e, opS_len]) fun k hk => ?_
  rw [turned_len, e] at hk
  rw [turned_at _ _ _ (by omega), opS_at hk, if_pos rfl, if_pos hk, accL_or (by omega) l k 0 (by omega), h]
end Go.Proofs.YtdkdjgpeeglbhaaDoor.BlobMath
