/- The document's own Split: what its three loops keep. -/
import Derived.Test.YtfkilbhhpipjbaaGreatDoorRefDouble
namespace Go.Proofs.YtfkilbhhpipjbaaGreatDoor.RefSplitM
open Go.RowKit
open Go.Proofs.YtfkilbhhpipjbaaGreatDoor.TextMath
open Go.Proofs.YtfkilbhhpipjbaaGreatDoor.ReqMath
open Go.Proofs.YtfkilbhhpipjbaaGreatDoor.Base
open Go.Proofs.YtfkilbhhpipjbaaGreatDoor.Small
open Go.Proofs.YtfkilbhhpipjbaaGreatDoor.Append
open Go.Proofs.YtfkilbhhpipjbaaGreatDoor.Bulk2
open Go.Proofs.YtfkilbhhpipjbaaGreatDoor.Quoted
open Go.Proofs.YtfkilbhhpipjbaaGreatDoor.SplitC
open Go.Proofs.YtfkilbhhpipjbaaGreatDoor.RefWrite
open Go.Proofs.YtfkilbhhpipjbaaGreatDoor.RefPart
set_option linter.unusedVariables false

theorem word_nil : wordS [] = some ([], 0) := rfl
theorem word_blank {c : UInt8} {t : List UInt8} (h : isBlank c = true) : wordS (c :: t) = some ([], 0) := by
  have hp : plainC c = false := by unfold plainC; rw [h]; rfl
  unfold wordS
  simp [hp, h]
theorem word_plain {c : UInt8} {t : List UInt8} (h : plainC c = true) : wordS (c :: t) = (wordS t).map (fun q => (c :: q.1, q.2 + 1)) := by
  unfold wordS
  simp only [List.takeWhile_cons, h, if_true, List.length_cons, List.drop_succ_cons]
  cases hd : t.drop (t.takeWhile plainC).length with
  | nil => rfl
  | cons b r =>
    dsimp only
    by_cases hb : isBlank b = true
    · rw [if_pos hb, if_pos hb]; rfl
    · rw [if_neg hb, if_neg hb]
      cases hp : partS b (if b = 34 then meantD else meantS) r with
      | none => rfl
      | some q =>
        obtain ⟨x, n⟩ := q
        dsimp only
        cases hr : r.drop n with
        | nil => simp; omega
        | cons b2 r2 =>
          dsimp only
          by_cases hb2 : isBlank b2 = true
          · rw [if_pos hb2, if_pos hb2]; simp; omega
          · rw [if_neg hb2, if_neg hb2]; rfl
theorem word_quote {c : UInt8} {t : List UInt8} (h : c = 34 ∨ c = 39) : wordS (c :: t) = match partS c (if c = 34 then meantD else meantS) t with
    | none => none
    | some (x, n) => match t.drop n with
      | [] => some (x, 1 + n)
      | b :: _ => if isBlank b = true then some (x, 1 + n) else none := by
  have hp : plainC c = false := by rcases h with h | h <;> subst h <;> decide
  have hb : ¬ isBlank c = true := by rcases h with h | h <;> subst h <;> decide
  unfold wordS
  simp only [List.takeWhile_cons, hp, List.length_nil, List.drop_zero, Bool.false_eq_true, if_false, if_neg hb, List.nil_append, Nat.zero_add]
  cases partS c (if c = 34 then meantD else meantS) t with
  | none => rfl
  | some q =>
    obtain ⟨x, n⟩ := q
    dsimp only
    cases t.drop n with
    | nil => rfl
    | cons b r => rfl
/- what the word's loop keeps -/
structure WI (l : List UInt8) (i k : Nat) (x : List UInt8) : Prop where
  le : i ≤ k
  len : k ≤ l.length
  xl : x.length + i ≤ k
  eq : wordS (l.drop i) = (wordS (l.drop k)).map (fun q => (x ++ q.1, (k - i) + q.2))
theorem WI.start {l : List UInt8} {i : Nat} (h : i ≤ l.length) : WI l i i [] := ⟨Nat.le_refl _, h, by simp, by
  cases wordS (l.drop i) with
  | none => rfl
  | some q => simp⟩
theorem drop_at {l : List UInt8} {k : Nat} {c : UInt8} (h : l[k]? = some c) : l.drop k = c :: l.drop (k + 1) := by
  obtain ⟨h2, h3⟩ := List.getElem?_eq_some_iff.1 h
  rw [List.drop_eq_getElem_cons h2, h3]
theorem WI.plain {l : List UInt8} {i k : Nat} {x : List UInt8} {c : UInt8} (h : WI l i k x) (hc : l[k]? = some c) (hp : plainC c = true) : WI l i (k + 1) (x ++ [c]) := by
  have hk := (List.getElem?_eq_some_iff.1 hc).1
  have h1 := h.le
  have h2 := h.xl
  refine ⟨by omega, by omega, by rw [List.length_append, List.length_singleton]; omega, ?_⟩
  rw [h.eq, drop_at hc, word_plain hp]
  cases wordS (l.drop (k + 1)) with
  | none => rfl
  | some q => simp; omega
theorem WI.done {l : List UInt8} {i k : Nat} {x : List UInt8} (h : WI l i k x) (he : k = l.length ∨ ∃ c, l[k]? = some c ∧ isBlank c = true) : wordS (l.drop i) = some (x, k - i) := by
  have e : wordS (l.drop k) = some ([], 0) := by
    rcases he with rfl | ⟨c, hc, hb⟩
    · rw [List.drop_length]; rfl
    · rw [drop_at hc]; exact word_blank hb
  rw [h.eq, e]
  simp
theorem WI.part {l : List UInt8} {i k : Nat} {x : List UInt8} {c : UInt8} (h : WI l i k x) (hc : l[k]? = some c) (hq : c = 34 ∨ c = 39) {y : List UInt8} {n : Nat} (hp : partS c (if c = 34 then meantD else meantS) (l.drop (k + 1)) = some (y, n)) (hn : n ≤ (l.drop (k + 1)).length) (hy : y.length < n)
    (he : n + (k + 1) = l.length ∨ ∃ b, l[n + (k + 1)]? = some b ∧ isBlank b = true) : WI l i (n + (k + 1)) (x ++ y) := by
  have hk := (List.getElem?_eq_some_iff.1 hc).1
  have h1 := h.le
  have h2 := h.xl
  have hl : (l.drop (k + 1)).length = l.length - (k + 1) := List.length_drop
  have hd : (l.drop (k + 1)).drop n = l.drop (n + (k + 1)) := by rw [List.drop_drop, Nat.add_comm]
  have e : wordS (l.drop k) = some (y, 1 + n) ∧ wordS (l.drop (n + (k + 1))) = some ([], 0) := by
    rw [drop_at hc, word_quote hq, hp]
    dsimp only
    rw [hd]
    rcases he with e | ⟨b, hb1, hb2⟩
    · rw [e, List.drop_length]
      exact ⟨rfl, rfl⟩
    · rw [drop_at hb1]
      dsimp only
      rw [if_pos hb2]
      exact ⟨rfl, word_blank hb2⟩
  refine ⟨by omega, by omega, by rw [List.length_append]; omega, ?_⟩
  rw [h.eq, e.1, e.2]
  simp
  omega
theorem WI.bad {l : List UInt8} {i k : Nat} {x : List UInt8} {c : UInt8} (h : WI l i k x) (hc : l[k]? = some c) (hq : c = 34 ∨ c = 39) (hp : partS c (if c = 34 then meantD else meantS) (l.drop (k + 1)) = none) : wordS (l.drop i) = none := by
  rw [h.eq, drop_at hc, word_quote hq, hp]
  rfl
theorem WI.bad2 {l : List UInt8} {i k : Nat} {x : List UInt8} {c : UInt8} (h : WI l i k x) (hc : l[k]? = some c) (hq : c = 34 ∨ c = 39) {y : List UInt8} {n : Nat} (hp : partS c (if c = 34 then meantD else meantS) (l.drop (k + 1)) = some (y, n)) {b : UInt8} (hb : l[n + (k + 1)]? = some b) (hb2 : isBlank b = false) : wordS (l.drop i) = none := by
  have hd : (l.drop (k + 1)).drop n = l.drop (n + (k + 1)) := by rw [List.drop_drop, Nat.add_comm]
  rw [h.eq, drop_at hc, word_quote hq, hp]
  dsimp only
  rw [hd, drop_at hb]
  dsimp only
  rw [if_neg (by rw [hb2]; decide)]
  rfl
/- what the outer loop keeps -/
structure SI (l : List UInt8) (i : Nat) (ws : List (List UInt8)) : Prop where
  len : i ≤ l.length
  wl : ws.length ≤ i
  eq : splitS l = (splitS (l.drop i)).map (ws ++ ·)
theorem SI.start (l : List UInt8) : SI l 0 [] := ⟨Nat.zero_le _, Nat.le_refl _, by rw [List.drop_zero]; cases splitS l <;> rfl⟩
/- what the blanks' loop keeps -/
structure BI (l : List UInt8) (i k : Nat) : Prop where
  le : i ≤ k
  len : k ≤ l.length
  eq : (l.drop i).dropWhile isBlank = (l.drop k).dropWhile isBlank
theorem BI.step {l : List UInt8} {i k : Nat} {c : UInt8} (h : BI l i k) (hc : l[k]? = some c) (hb : isBlank c = true) : BI l i (k + 1) := by
  have hk := (List.getElem?_eq_some_iff.1 hc).1
  refine ⟨Nat.le_succ_of_le h.le, hk, ?_⟩
  rw [h.eq, drop_at hc, List.dropWhile_cons, if_pos hb]
theorem BI.stop {l : List UInt8} {i k : Nat} {c : UInt8} (h : BI l i k) (hc : l[k]? = some c) (hb : isBlank c = false) : (l.drop i).dropWhile isBlank = c :: l.drop (k + 1) := by
  rw [h.eq, drop_at hc, List.dropWhile_cons, if_neg (by rw [hb]; decide)]
theorem SI.end_ {l : List UInt8} {i k : Nat} {ws : List (List UInt8)} (h : SI l i ws) (hb : BI l i k) (hk : k = l.length) : splitS l = some ws := by
  rw [h.eq, split_nil (by rw [hb.eq, hk, List.drop_length]; rfl)]
  simp
theorem SI.bad {l : List UInt8} {i k : Nat} {ws : List (List UInt8)} {c : UInt8} (h : SI l i ws) (hb : BI l i k) (hc : l[k]? = some c) (hbl : isBlank c = false) (hw : wordS (l.drop k) = none) : splitS l = none := by
  rw [h.eq, split_bad (hb.stop hc hbl) (by rw [← drop_at hc]; exact hw)]
  rfl
theorem SI.word {l : List UInt8} {i k j : Nat} {ws : List (List UInt8)} {c : UInt8} {x : List UInt8} (h : SI l i ws) (hb : BI l i k) (hc : l[k]? = some c) (hbl : isBlank c = false) (hw : wordS (l.drop k) = some (x, j - k)) (hkj : k < j) (hj : j ≤ l.length) : SI l j (ws ++ [x]) := by
  have h1 := h.wl
  have h2 := hb.le
  refine ⟨hj, by rw [List.length_append, List.length_singleton]; omega, ?_⟩
  rw [h.eq, split_word (hb.stop hc hbl) (by rw [← drop_at hc]; exact hw) (by omega), ← drop_at hc, List.drop_drop, show k + (j - k) = j by omega]
  cases splitS (l.drop j) with
  | none => rfl
  | some q => simp
/- a list of words that is the call's own -/
def OS (w : World) (ws : List (List UInt8)) (v : Value) (wx : World) : Prop := WS wx v ws ∧ Below w.heap.size w wx ∧ (∀ g, v.ownBlock = some g → w.heap.size ≤ g)
theorem os_below {w W W' : World} {ws : List (List UInt8)} {v : Value} (h : OS w ws v W) (hb : Below W.heap.size W W') : OS w ws v W' := ⟨owns_below h.1 hb, h.2.1.trans (hb.mono h.2.1.size), h.2.2⟩
theorem os_grown {w W W' : World} {ws : List (List UInt8)} {v u : Value} {n : Nat} {xs : List Value} (h : OS w ws v W) (hu : W.ownsRow 8 5 1 u n xs) (hg : W.grownBy W' u.ownBlock) (hl : ∀ g, u.ownBlock = some g → w.heap.size ≤ g) : OS w ws v W' := by
  refine ⟨?_, h.2.1.grown hg h.2.1.size hl, h.2.2⟩
  have h1 := h.1
  unfold WS at h1 ⊢
  refine ⟨h1.1, ?_⟩
  rcases h1.2 with x | ⟨g, cp, cur, x1, x2, x3, x4⟩
  · exact Or.inl x
  · refine Or.inr ⟨g, cp, cur, x1, x2, (hg.block g (lt_of x3) (fun e => ?_)).trans x3, x4⟩
    obtain ⟨c, hc⟩ := owns_kind hu g e.symm
    rw [x3] at hc
    cases hc
theorem os_snoc {w W W' : World} {ws : List (List UInt8)} {x : List UInt8} {v v' : Value} {o : Obj} (h : OS w ws v W) (hg : Apd 9 v ws.length 1 (strC ws ++ [.string (Base.mk x)]) v' (W.alloc o) W') : OS w (ws ++ [x]) v' W' := by
  obtain ⟨q1, q2, q3, -⟩ := hg
  have hb : Below w.heap.size w (W.alloc o) := h.2.1.alloc h.2.1.size o
  refine ⟨?_, hb.grown q2 hb.size h.2.2, fun g hg => (q3 g hg).elim (h.2.2 g) (fun e => Nat.le_trans hb.size e)⟩
  have e : strC (ws ++ [x]) = strC ws ++ [.string (Base.mk x)] := by unfold strC; rw [List.map_append]; rfl
  unfold WS
  rw [e, List.length_append]
  exact q1
/- a part behind a word -/
theorem ow_part {w W : World} {x y : List UInt8} {v pv : Value} (h : OW w x v W) (hp : W.ownsRow 8 5 1 pv y.length (Lib.byteCells y)) (h8 : 8 ≤ W.heap.size) (hl : x.length + y.length ≤ 1000000000) :
    ∃ v' W', (Builtin.append_ #[61, 61] 61 #[v, pv]).run Tryz.prog W = .ok v' W' ∧ OW w (x ++ y) v' W' ∧ W.grownBy W' v.ownBlock := by
  rcases hp.2 with ⟨rfl, h0⟩ | ⟨g, cap, cur, rfl, hb, hg, hc1, hc2, hc3, hc4⟩
  · have : y = [] := List.length_eq_zero_iff.1 h0
    subst this
    obtain ⟨i, hi, -, -, -⟩ := info_parts el61.info
    refine ⟨v, W, run_append_owned_none (P := Tryz.prog) (w := W) 8 61 61 5 i 1 Tryz.underlying61 hi v x.length _ h.1, by rw [List.append_nil]; exact h, ⟨rfl, rfl, rfl, Nat.le_refl _, fun _ _ _ => rfl⟩⟩
  · obtain ⟨v', W', hr, q1, q2, q3, -⟩ := append_where el61 61 W v x.length (Lib.byteCells x) h.1 h8 ⟨g, 0, none⟩ y.length cap (Lib.byteCells y) (by simp [Lib.byteCells]) (fun j u hj => World.ownsRow.cells hp (g := g) rfl j u hj) (fun u hu => by
      unfold Lib.byteCells at hu
      obtain ⟨c, _, rfl⟩ := List.mem_map.1 hu
      rfl) hl
    refine ⟨v', W', hr, ⟨?_, h.2.1.grown q2 h.2.1.size h.2.2, fun g hg => (q3 g hg).elim (h.2.2 g) (fun e => Nat.le_trans h.2.1.size e)⟩, q2⟩
    rw [Lib.byteCells_append, List.length_append]
    exact q1
end Go.Proofs.YtfkilbhhpipjbaaGreatDoor.RefSplitM
