/- Requests out of a stream of bytes, as the chapter says them: over lists of bytes. -/
import Derived.Test.YtfkilbhhpipjbaaGreatDoorTextMath
import Derived.Lib.Bytealg
namespace Go.Proofs.YtfkilbhhpipjbaaGreatDoor.ReqMath
open Go.Lib Go.Proofs.YtfkilbhhpipjbaaGreatDoor.TextMath
set_option linter.unusedVariables false

structure Lim where
  bulk : Nat
  args : Nat
  line : Nat

def wLine : List UInt8 := [108, 105, 110, 101]
def wCount : List UInt8 := [99, 111, 117, 110, 116]
def wBulk : List UInt8 := [98, 117, 108, 107]
def wLength : List UInt8 := [108, 101, 110, 103, 116, 104]
def wEnd : List UInt8 := [101, 110, 100]
def wQuotes : List UInt8 := [113, 117, 111, 116, 101, 115]
def wWords : List UInt8 := [119, 111, 114, 100, 115]

/- the place of the first 10 -/
def nl : List UInt8 → Option Nat
  | [] => none
  | c :: t => if c = 10 then some 0 else (nl t).map (· + 1)
theorem nl_index : ∀ l : List UInt8, indexByte l 10 = match nl l with | none => -1 | some i => (i : Int)
  | [] => rfl
  | c :: t => by
    have ih := nl_index t
    unfold indexByte nl
    by_cases h : c = 10
    · subst h; rfl
    · rw [if_neg h, if_neg (by simpa using h), ih]
      cases nl t with
      | none => rfl
      | some i => simp
theorem nl_lt : ∀ (l : List UInt8) (i : Nat), nl l = some i → i < l.length
  | [], i, h => by cases h
  | c :: t, i, h => by
    unfold nl at h
    split at h
    · cases h; simp
    · cases hn : nl t with
      | none => rw [hn] at h; cases h
      | some k =>
        rw [hn] at h
        cases h
        have := nl_lt t k hn
        simp; omega
theorem nl_cons (c : UInt8) (t : List UInt8) : nl (c :: t) = if c = 10 then some 0 else (nl t).map (· + 1) := rfl
theorem nl_app : ∀ (l t : List UInt8), nl (l ++ t) = match nl l with | some i => some i | none => (nl t).map (· + l.length)
  | [], t => by
    show nl t = (nl t).map (· + 0)
    cases nl t <;> rfl
  | c :: l, t => by
    have ih := nl_app l t
    rw [List.cons_append, nl_cons, nl_cons]
    by_cases h : c = 10
    · rw [if_pos h, if_pos h]
    · rw [if_neg h, if_neg h, ih]
      cases nl l with
      | some i => rfl
      | none =>
        cases nl t with
        | none => rfl
        | some k => simp; omega

inductive LR where
  | more
  | long
  | got (t : List UInt8) (n : Nat)
def lineS (most : Nat) (l : List UInt8) : LR :=
  match nl l with
  | none => if most < l.length then .long else .more
  | some i => if most < i then .long else .got (trimSuffix (l.take i) [13]) (i + 1)
theorem line_got_app {most : Nat} {l x : List UInt8} {n : Nat} (h : lineS most l = .got x n) (t : List UInt8) : 0 < n ∧ n ≤ l.length ∧ lineS most (l ++ t) = .got x n := by
  unfold lineS at h ⊢
  rw [nl_app]
  cases hn : nl l with
  | none => rw [hn] at h; dsimp only at h; split at h <;> cases h
  | some i =>
    rw [hn] at h
    dsimp only at h ⊢
    have hi := nl_lt l i hn
    split at h
    · cases h
    · rename_i hm
      cases h
      rw [if_neg hm, List.take_append_of_le_length (by omega)]
      exact ⟨by omega, by omega, rfl⟩
theorem line_long_app {most : Nat} {l : List UInt8} (h : lineS most l = .long) (t : List UInt8) : lineS most (l ++ t) = .long := by
  unfold lineS at h ⊢
  rw [nl_app]
  cases hn : nl l with
  | none =>
    rw [hn] at h
    dsimp only at h ⊢
    split at h
    · rename_i hm
      cases nl t with
      | none => show (if _ then _ else _) = _; rw [if_pos (by rw [List.length_append]; omega)]
      | some k => show (if most < k + l.length then _ else _) = _; rw [if_pos (by omega)]
    · cases h
  | some i =>
    rw [hn] at h
    dsimp only at h ⊢
    split at h
    · rename_i hm; rw [if_pos hm]
    · cases h

def countS (most : Nat) (d : List UInt8) : Option Nat := if decDigits (valOn 0 d) = d ∧ valOn 0 d ≤ most then some (valOn 0 d) else none
theorem count_dec {most n : Nat} (h : n ≤ most) : countS most (decDigits n) = some n := by
  unfold countS
  rw [val_dec, if_pos ⟨rfl, h⟩]
theorem count_some {most n : Nat} {d : List UInt8} (h : countS most d = some n) : d = decDigits n ∧ n ≤ most := by
  unfold countS at h
  split at h
  · rename_i hc; cases h; exact ⟨hc.1.symm, hc.2⟩
  · cases h
theorem count_none {most : Nat} {d : List UInt8} (h : countS most d = none) : ∀ n, n ≤ most → d ≠ decDigits n := by
  intro n hn e
  subst e
  rw [count_dec hn] at h
  cases h

inductive BR where
  | more
  | fault (w : List UInt8)
  | done (n : Nat) (t : List UInt8)
def endS (n k : Nat) (body : List UInt8) : BR :=
  match body.drop k with
  | [] => .more
  | [x] => if x = 13 then .more else .fault wEnd
  | x :: y :: _ => if x = 13 ∧ y = 10 then .done (n + k + 2) (body.take k) else .fault wEnd
def bulkS (L : Lim) (l : List UInt8) : BR :=
  match l with
  | [] => .more
  | c :: _ => if c ≠ 36 then .fault wBulk else
    match lineS L.line l with
    | .more => .more
    | .long => .fault wLine
    | .got x n => match countS L.bulk x.tail with
      | none => .fault wLength
      | some k => endS n k (l.drop n)
inductive TR where
  | more
  | fault (w : List UInt8)
  | done (n : Nat) (ws : List (List UInt8))
def TR.add (k : Nat) : TR → TR
  | .more => .more
  | .fault w => .fault w
  | .done n ws => .done (k + n) ws
def arrS (L : Lim) : Nat → List (List UInt8) → List UInt8 → TR
  | 0, ws, _ => .done 0 ws
  | k + 1, ws, l => match bulkS L l with
    | .more => .more
    | .fault w => .fault w
    | .done n t => (arrS L k (ws ++ [t]) (l.drop n)).add n

theorem end_done {n k m : Nat} {body x : List UInt8} (h : endS n k body = .done m x) (t : List UInt8) : m = n + k + 2 ∧ k + 2 ≤ body.length ∧ endS n k (body ++ t) = .done m x := by
  unfold endS at h ⊢
  match hd : body.drop k with
  | [] => rw [hd] at h; cases h
  | [y] => rw [hd] at h; dsimp only at h; split at h <;> cases h
  | y :: z :: r =>
    have hl : (body.drop k).length = r.length + 2 := by rw [hd]; rfl
    rw [List.length_drop] at hl
    have hk : k ≤ body.length := by omega
    rw [hd] at h
    rw [List.drop_append_of_le_length hk, hd, List.take_append_of_le_length hk]
    dsimp only [List.cons_append] at h ⊢
    split at h
    · rename_i hy; cases h; exact ⟨rfl, by omega, by rw [if_pos hy]⟩
    · cases h
theorem end_fault {n k : Nat} {body w : List UInt8} (h : endS n k body = .fault w) (t : List UInt8) : endS n k (body ++ t) = .fault w := by
  unfold endS at h ⊢
  match hd : body.drop k with
  | [] => rw [hd] at h; cases h
  | [y] =>
    have hl : (body.drop k).length = 1 := by rw [hd]; rfl
    rw [List.length_drop] at hl
    have hk : k ≤ body.length := by omega
    rw [hd] at h
    rw [List.drop_append_of_le_length hk, hd, List.take_append_of_le_length hk]
    dsimp only [List.cons_append] at h ⊢
    split at h
    · cases h
    · rename_i hy
      cases t with
      | nil => dsimp only [List.nil_append]; rw [if_neg hy]; exact h
      | cons z r => dsimp only [List.nil_append]; rw [if_neg (fun q => hy q.1)]; exact h
  | y :: z :: r =>
    have hl : (body.drop k).length = r.length + 2 := by rw [hd]; rfl
    rw [List.length_drop] at hl
    have hk : k ≤ body.length := by omega
    rw [hd] at h
    rw [List.drop_append_of_le_length hk, hd, List.take_append_of_le_length hk]
    dsimp only [List.cons_append] at h ⊢
    split at h
    · cases h
    · rename_i hy; rw [if_neg hy]; exact h
theorem bulk_done {L : Lim} {l x : List UInt8} {n : Nat} (h : bulkS L l = .done n x) (t : List UInt8) : 0 < n ∧ n ≤ l.length ∧ bulkS L (l ++ t) = .done n x := by
  cases l with
  | nil => cases h
  | cons c l =>
    unfold bulkS at h ⊢
    dsimp only [List.cons_append] at h ⊢
    split at h
    · cases h
    · rename_i hc
      rw [if_neg hc]
      cases hl : lineS L.line (c :: l) with
      | more => rw [hl] at h; cases h
      | long => rw [hl] at h; cases h
      | got y m =>
        rw [hl] at h
        obtain ⟨h1, h2, h3⟩ := line_got_app hl t
        rw [List.cons_append] at h3
        rw [h3]
        dsimp only at h ⊢
        cases hk : countS L.bulk y.tail with
        | none => rw [hk] at h; cases h
        | some k =>
          rw [hk] at h
          dsimp only at h ⊢
          obtain ⟨h4, h5, h6⟩ := end_done h t
          rw [List.length_drop] at h5
          rw [← List.cons_append, List.drop_append_of_le_length h2]
          exact ⟨by omega, by omega, h6⟩
theorem bulk_fault {L : Lim} {l w : List UInt8} (h : bulkS L l = .fault w) (t : List UInt8) : bulkS L (l ++ t) = .fault w := by
  cases l with
  | nil => cases h
  | cons c l =>
    unfold bulkS at h ⊢
    dsimp only [List.cons_append] at h ⊢
    split at h
    · rename_i hc; rw [if_pos hc]; exact h
    · rename_i hc
      rw [if_neg hc]
      cases hl : lineS L.line (c :: l) with
      | more => rw [hl] at h; cases h
      | long =>
        rw [hl] at h
        have h3 := line_long_app hl t
        rw [List.cons_append] at h3
        rw [h3]; exact h
      | got y m =>
        rw [hl] at h
        obtain ⟨h1, h2, h3⟩ := line_got_app hl t
        rw [List.cons_append] at h3
        rw [h3]
        dsimp only at h ⊢
        cases hk : countS L.bulk y.tail with
        | none => rw [hk] at h; exact h
        | some k =>
          rw [hk] at h
          dsimp only at h ⊢
          rw [← List.cons_append, List.drop_append_of_le_length h2]
          exact end_fault h t
theorem arr_done {L : Lim} : ∀ {k : Nat} {ws : List (List UInt8)} {l : List UInt8} {n : Nat} {r : List (List UInt8)}, arrS L k ws l = .done n r → ∀ t, n ≤ l.length ∧ arrS L k ws (l ++ t) = .done n r
  | 0, ws, l, n, r, h, t => by cases h; exact ⟨Nat.zero_le _, rfl⟩
  | k + 1, ws, l, n, r, h, t => by
    unfold arrS at h ⊢
    cases hb : bulkS L l with
    | more => rw [hb] at h; cases h
    | fault w => rw [hb] at h; cases h
    | done m x =>
      rw [hb] at h
      obtain ⟨h1, h2, h3⟩ := bulk_done hb t
      rw [h3]
      dsimp only at h ⊢
      rw [List.drop_append_of_le_length h2]
      cases ha : arrS L k (ws ++ [x]) (l.drop m) with
      | more => rw [ha] at h; cases h
      | fault w => rw [ha] at h; cases h
      | done j q =>
        rw [ha] at h
        cases h
        obtain ⟨h4, h5⟩ := arr_done ha t
        rw [h5]
        rw [List.length_drop] at h4
        exact ⟨by omega, rfl⟩
theorem arr_fault {L : Lim} : ∀ {k : Nat} {ws : List (List UInt8)} {l w : List UInt8}, arrS L k ws l = .fault w → ∀ t, arrS L k ws (l ++ t) = .fault w
  | 0, ws, l, w, h, t => by cases h
  | k + 1, ws, l, w, h, t => by
    unfold arrS at h ⊢
    cases hb : bulkS L l with
    | more => rw [hb] at h; cases h
    | fault w => rw [hb] at h; rw [bulk_fault hb t]; exact h
    | done m x =>
      rw [hb] at h
      obtain ⟨h1, h2, h3⟩ := bulk_done hb t
      rw [h3]
      dsimp only at h ⊢
      rw [List.drop_append_of_le_length h2]
      cases ha : arrS L k (ws ++ [x]) (l.drop m) with
      | more => rw [ha] at h; cases h
      | fault w => rw [ha] at h; cases h; rw [arr_fault ha t]; rfl
      | done j q => rw [ha] at h; cases h

/- typed lines -/
def isBlank (c : UInt8) : Bool := c == 9 || c == 10 || c == 13 || c == 32
def hexV (c : UInt8) : Option Nat :=
  if 48 ≤ c.toNat ∧ c.toNat ≤ 57 then some (c.toNat - 48) else
  if 97 ≤ c.toNat ∧ c.toNat ≤ 102 then some (c.toNat - 87) else
  if 65 ≤ c.toNat ∧ c.toNat ≤ 70 then some (c.toNat - 55) else none
def backV (c : UInt8) : UInt8 := if c = 110 then 10 else if c = 114 then 13 else if c = 116 then 9 else if c = 98 then 8 else if c = 97 then 7 else c
def meantS (l : List UInt8) : UInt8 × Nat := if l.headD 0 = 92 ∧ l.tail.headD 0 = 39 then (39, 2) else (l.headD 0, 1)
def hex2 : List UInt8 → Option UInt8
  | a :: b :: _ => match hexV a, hexV b with
    | some x, some y => some (UInt8.ofNat (16 * x + y))
    | _, _ => none
  | _ => none
def meantD : List UInt8 → UInt8 × Nat
  | [] => (0, 1)
  | [c] => (c, 1)
  | c :: x :: r => if c ≠ 92 then (c, 1) else
    if x = 120 then (match hex2 r with | some v => (v, 4) | none => (backV x, 2)) else (backV x, 2)
def partS (q : UInt8) (m : List UInt8 → UInt8 × Nat) : List UInt8 → Option (List UInt8 × Nat)
  | [] => none
  | c :: t => if c = q then some ([], 1) else
    match partS q m (t.drop ((m (c :: t)).2 - 1)) with
    | none => none
    | some (x, n) => some ((m (c :: t)).1 :: x, n + ((m (c :: t)).2 - 1 + 1))
  termination_by l => l.length
  decreasing_by simp only [List.length_drop, List.length_cons]; omega
def plainC (c : UInt8) : Bool := !(isBlank c || c == 34 || c == 39)
def wordS (l : List UInt8) : Option (List UInt8 × Nat) :=
  let p := l.takeWhile plainC
  match l.drop p.length with
  | [] => some (p, p.length)
  | c :: t => if isBlank c = true then some (p, p.length) else
    match partS c (if c = 34 then meantD else meantS) t with
    | none => none
    | some (x, n) => match t.drop n with
      | [] => some (p ++ x, p.length + (1 + n))
      | b :: _ => if isBlank b = true then some (p ++ x, p.length + (1 + n)) else none
def splitS (l : List UInt8) : Option (List (List UInt8)) :=
  match l.dropWhile isBlank with
  | [] => some []
  | c :: t => match wordS (c :: t) with
    | none => none
    | some (x, n) => if h : 0 < n ∧ (c :: t).length ≤ l.length then (splitS ((c :: t).drop n)).map (x :: ·) else none
  termination_by l.length
  decreasing_by simp only [List.length_drop, List.length_cons] at h ⊢; omega
def typedS (L : Lim) (x : List UInt8) : Except (List UInt8) (List (List UInt8)) :=
  match splitS x with
  | none => .error wQuotes
  | some ws => if L.args < ws.length ∨ ws.any (fun t => decide (L.bulk < t.length)) = true then .error wWords else .ok ws
def firstS (L : Lim) (n : Nat) (x r : List UInt8) : TR :=
  if x.headD 0 = 42 then
    match countS L.args x.tail with
    | none => .fault wCount
    | some k => (arrS L k [] r).add n
  else match typedS L x with
    | .error w => .fault w
    | .ok ws => .done n ws
def thingS (L : Lim) (l : List UInt8) : TR :=
  match lineS L.line l with
  | .more => .more
  | .long => .fault wLine
  | .got x n => firstS L n x (l.drop n)
theorem first_done {L : Lim} {n m : Nat} {x r : List UInt8} {ws : List (List UInt8)} (h : firstS L n x r = .done m ws) (t : List UInt8) : n ≤ m ∧ m ≤ n + r.length ∧ firstS L n x (r ++ t) = .done m ws := by
  unfold firstS at h ⊢
  split at h
  · rename_i hx; try rw [if_pos hx]
    cases hk : countS L.args x.tail with
    | none => rw [hk] at h; cases h
    | some k =>
      rw [hk] at h
      dsimp only at h ⊢
      cases ha : arrS L k [] r with
      | more => rw [ha] at h; cases h
      | fault w => rw [ha] at h; cases h
      | done j q =>
        rw [ha] at h
        cases h
        obtain ⟨h4, h5⟩ := arr_done ha t
        rw [h5]
        exact ⟨by omega, by omega, rfl⟩
  · rename_i hx; rw [if_neg hx]
    cases hk : typedS L x with
    | error w => rw [hk] at h; cases h
    | ok ws => rw [hk] at h; cases h; exact ⟨Nat.le_refl _, by omega, rfl⟩
theorem first_fault {L : Lim} {n : Nat} {x r w : List UInt8} (h : firstS L n x r = .fault w) (t : List UInt8) : firstS L n x (r ++ t) = .fault w := by
  unfold firstS at h ⊢
  split at h
  · rename_i hx; try rw [if_pos hx]
    cases hk : countS L.args x.tail with
    | none => rw [hk] at h; exact h
    | some k =>
      rw [hk] at h
      dsimp only at h ⊢
      cases ha : arrS L k [] r with
      | more => rw [ha] at h; cases h
      | fault w => rw [ha] at h; cases h; rw [arr_fault ha t]; rfl
      | done j q => rw [ha] at h; cases h
  · rename_i hx; rw [if_neg hx]; exact h
theorem thing_done {L : Lim} {l : List UInt8} {n : Nat} {ws : List (List UInt8)} (h : thingS L l = .done n ws) (t : List UInt8) : 0 < n ∧ n ≤ l.length ∧ thingS L (l ++ t) = .done n ws := by
  unfold thingS at h ⊢
  cases hl : lineS L.line l with
  | more => rw [hl] at h; cases h
  | long => rw [hl] at h; cases h
  | got x m =>
    rw [hl] at h
    obtain ⟨h1, h2, h3⟩ := line_got_app hl t
    rw [h3]
    dsimp only at h ⊢
    rw [List.drop_append_of_le_length h2]
    obtain ⟨h4, h5, h6⟩ := first_done h t
    rw [List.length_drop] at h5
    exact ⟨by omega, by omega, h6⟩
theorem thing_fault {L : Lim} {l w : List UInt8} (h : thingS L l = .fault w) (t : List UInt8) : thingS L (l ++ t) = .fault w := by
  unfold thingS at h ⊢
  cases hl : lineS L.line l with
  | more => rw [hl] at h; cases h
  | long => rw [hl] at h; rw [line_long_app hl t]; exact h
  | got x m =>
    rw [hl] at h
    obtain ⟨h1, h2, h3⟩ := line_got_app hl t
    rw [h3]
    dsimp only at h ⊢
    rw [List.drop_append_of_le_length h2]
    exact first_fault h t

inductive NR where
  | more (k : Nat)
  | fault (k : Nat) (w : List UInt8)
  | one (k : Nat) (ws : List (List UInt8))
def NR.add (n : Nat) : NR → NR
  | .more k => .more (n + k)
  | .fault k w => .fault (n + k) w
  | .one k ws => .one (n + k) ws
def nextS (L : Lim) (l : List UInt8) : NR :=
  match thingS L l with
  | .more => .more 0
  | .fault w => .fault 0 w
  | .done n ws => if ws = [] then (if h : 0 < n ∧ n ≤ l.length then (nextS L (l.drop n)).add n else .more 0) else .one n ws
  termination_by l.length
  decreasing_by simp only [List.length_drop]; omega
theorem next_more {L : Lim} {l : List UInt8} (h : thingS L l = .more) : nextS L l = .more 0 := by rw [nextS, h]
theorem next_fault {L : Lim} {l w : List UInt8} (h : thingS L l = .fault w) : nextS L l = .fault 0 w := by rw [nextS, h]
theorem next_pass {L : Lim} {l : List UInt8} {n : Nat} (h : thingS L l = .done n []) : nextS L l = (nextS L (l.drop n)).add n := by
  obtain ⟨h1, h2, _⟩ := thing_done h []
  rw [nextS, h]
  dsimp only
  rw [if_pos rfl, dif_pos ⟨h1, h2⟩]
theorem next_one {L : Lim} {l : List UInt8} {n : Nat} {ws : List (List UInt8)} (h : thingS L l = .done n ws) (hw : ws ≠ []) : nextS L l = .one n ws := by
  rw [nextS, h]
  dsimp only
  rw [if_neg hw]
theorem add_zero_nr (r : NR) : r.add 0 = r := by cases r <;> simp [NR.add]
theorem add_add_nr (a b : Nat) (r : NR) : (r.add b).add a = r.add (a + b) := by cases r <;> simp [NR.add, Nat.add_assoc]
theorem next_app {L : Lim} : ∀ (N : Nat) (l : List UInt8), l.length ≤ N → ∀ t, match nextS L l with
    | .more k => k ≤ l.length ∧ nextS L (l ++ t) = (nextS L (l.drop k ++ t)).add k
    | .fault k w => k ≤ l.length ∧ nextS L (l ++ t) = .fault k w
    | .one k ws => 0 < k ∧ k ≤ l.length ∧ nextS L (l ++ t) = .one k ws ∧ ws ≠ [] := by
  intro N
  induction N with
  | zero =>
    intro l hl t
    have : l = [] := List.length_eq_zero_iff.1 (by omega)
    subst this
    have : nextS L [] = .more 0 := next_more rfl
    rw [this]
    exact ⟨Nat.zero_le _, (add_zero_nr _).symm⟩
  | succ N ih =>
    intro l hl t
    cases h : thingS L l with
    | more => rw [next_more h]; exact ⟨Nat.zero_le _, by rw [add_zero_nr]; rfl⟩
    | fault w => rw [next_fault h]; exact ⟨Nat.zero_le _, next_fault (thing_fault h t)⟩
    | done n ws =>
      obtain ⟨h1, h2, h3⟩ := thing_done h t
      by_cases hw : ws = []
      · subst hw
        rw [next_pass h, next_pass h3, List.drop_append_of_le_length h2]
        have := ih (l.drop n) (by rw [List.length_drop]; omega) t
        cases hq : nextS L (l.drop n) with
        | more k =>
          rw [hq] at this
          obtain ⟨q1, q2⟩ := this
          rw [List.length_drop] at q1
          refine ⟨by omega, ?_⟩
          rw [q2, add_add_nr, List.drop_drop]
        | fault k w =>
          rw [hq] at this
          obtain ⟨q1, q2⟩ := this
          rw [List.length_drop] at q1
          exact ⟨by omega, by rw [q2]; rfl⟩
        | one k ws =>
          rw [hq] at this
          obtain ⟨q1, q2, q3, q4⟩ := this
          rw [List.length_drop] at q2
          exact ⟨by omega, by omega, by rw [q3]; rfl, q4⟩
      · rw [next_one h hw]
        exact ⟨h1, h2, next_one h3 hw, hw⟩
theorem next_le_one {L : Lim} {l : List UInt8} {k : Nat} {ws : List (List UInt8)} (h : nextS L l = .one k ws) : 0 < k ∧ k ≤ l.length ∧ ws ≠ [] := by
  have := next_app (L := L) l.length l (Nat.le_refl _) []
  rw [h] at this
  exact ⟨this.1, this.2.1, this.2.2.2⟩
theorem next_le_more {L : Lim} {l : List UInt8} {k : Nat} (h : nextS L l = .more k) : k ≤ l.length := by
  have := next_app (L := L) l.length l (Nat.le_refl _) []
  rw [h] at this
  exact this.1
theorem next_le_fault {L : Lim} {l w : List UInt8} {k : Nat} (h : nextS L l = .fault k w) : k ≤ l.length := by
  have := next_app (L := L) l.length l (Nat.le_refl _) []
  rw [h] at this
  exact this.1

structure Told where
  reqs : List (List (List UInt8))
  word : List UInt8
  used : Nat
def wholeS (L : Lim) (l : List UInt8) : Told :=
  match nextS L l with
  | .more k => ⟨[], [], k⟩
  | .fault k w => ⟨[], w, k⟩
  | .one k ws => if h : 0 < k ∧ k ≤ l.length then (fun r => ⟨ws :: r.reqs, r.word, k + r.used⟩) (wholeS L (l.drop k)) else ⟨[], [], 0⟩
  termination_by l.length
  decreasing_by simp only [List.length_drop]; omega
theorem whole_more {L : Lim} {l : List UInt8} {k : Nat} (h : nextS L l = .more k) : wholeS L l = ⟨[], [], k⟩ := by rw [wholeS, h]
theorem whole_fault {L : Lim} {l w : List UInt8} {k : Nat} (h : nextS L l = .fault k w) : wholeS L l = ⟨[], w, k⟩ := by rw [wholeS, h]
theorem whole_one {L : Lim} {l : List UInt8} {k : Nat} {ws : List (List UInt8)} (h : nextS L l = .one k ws) : wholeS L l = ⟨ws :: (wholeS L (l.drop k)).reqs, (wholeS L (l.drop k)).word, k + (wholeS L (l.drop k)).used⟩ := by
  obtain ⟨h1, h2, _⟩ := next_le_one h
  rw [wholeS, h]
  dsimp only
  rw [dif_pos ⟨h1, h2⟩]
theorem whole_add {L : Lim} {x : List UInt8} {k : Nat} (h : nextS L x = (nextS L (x.drop k)).add k) : wholeS L x = ⟨(wholeS L (x.drop k)).reqs, (wholeS L (x.drop k)).word, k + (wholeS L (x.drop k)).used⟩ := by
  cases hq : nextS L (x.drop k) with
  | more j => rw [hq] at h; rw [whole_more h, whole_more hq]
  | fault j w => rw [hq] at h; rw [whole_fault h, whole_fault hq]
  | one j ws => rw [hq] at h; rw [whole_one h, whole_one hq, List.drop_drop]; simp [Nat.add_assoc]
theorem whole_used {L : Lim} : ∀ (N : Nat) (l : List UInt8), l.length ≤ N → (wholeS L l).used ≤ l.length := by
  intro N
  induction N with
  | zero =>
    intro l hl
    cases hq : nextS L l with
    | more j => rw [whole_more hq]; exact next_le_more hq
    | fault j w => rw [whole_fault hq]; exact next_le_fault hq
    | one j ws => obtain ⟨h1, h2, _⟩ := next_le_one hq; omega
  | succ N ih =>
    intro l hl
    cases hq : nextS L l with
    | more j => rw [whole_more hq]; exact next_le_more hq
    | fault j w => rw [whole_fault hq]; exact next_le_fault hq
    | one j ws =>
      obtain ⟨h1, h2, _⟩ := next_le_one hq
      rw [whole_one hq]
      have := ih (l.drop j) (by rw [List.length_drop]; omega)
      rw [List.length_drop] at this
      show j + _ ≤ _
      omega
theorem thing_word {L : Lim} {l w : List UInt8} (h : thingS L l = .fault w) : w ≠ [] := by
  have hb : ∀ {l w : List UInt8}, bulkS L l = .fault w → w ≠ [] := by
    intro l w h
    unfold bulkS at h
    repeat' split at h
    all_goals try cases h
    all_goals try (unfold wBulk; decide)
    all_goals try (unfold wLine; decide)
    all_goals try (unfold wLength; decide)
    unfold endS at h
    repeat' split at h
    all_goals try cases h
    all_goals (unfold wEnd; decide)
  have ha : ∀ (k : Nat) (ws : List (List UInt8)) (l w : List UInt8), arrS L k ws l = .fault w → w ≠ [] := by
    intro k
    induction k with
    | zero => intro ws l w h; cases h
    | succ k ih =>
      intro ws l w h
      unfold arrS at h
      cases hq : bulkS L l with
      | more => rw [hq] at h; cases h
      | fault v => rw [hq] at h; cases h; exact hb hq
      | done m x =>
        rw [hq] at h
        dsimp only at h
        cases hr : arrS L k (ws ++ [x]) (l.drop m) with
        | more => rw [hr] at h; cases h
        | fault v => rw [hr] at h; cases h; exact ih _ _ _ hr
        | done j q => rw [hr] at h; cases h
  unfold thingS at h
  cases hl : lineS L.line l with
  | more => rw [hl] at h; cases h
  | long => rw [hl] at h; cases h; unfold wLine; decide
  | got x n =>
    rw [hl] at h
    dsimp only at h
    unfold firstS at h
    split at h
    · split at h
      · cases h; unfold wCount; decide
      · rename_i k _
        cases hr : arrS L k [] (l.drop n) with
        | more => rw [hr] at h; cases h
        | fault v => rw [hr] at h; cases h; exact ha _ _ _ _ hr
        | done j q => rw [hr] at h; cases h
    · unfold typedS at h
      cases hs : splitS x with
      | none => rw [hs] at h; cases h; unfold wQuotes; decide
      | some ws =>
        rw [hs] at h
        dsimp only at h
        split at h
        · rename_i heq
          split at heq
          · cases heq; cases h; unfold wWords; decide
          · cases heq
        · cases h
theorem next_word {L : Lim} : ∀ (N : Nat) (l : List UInt8), l.length ≤ N → ∀ k w, nextS L l = .fault k w → w ≠ [] := by
  intro N
  induction N with
  | zero =>
    intro l hl k w h
    have : l = [] := List.length_eq_zero_iff.1 (by omega)
    subst this
    have : nextS L [] = .more 0 := next_more rfl
    rw [this] at h; cases h
  | succ N ih =>
    intro l hl k w h
    cases hq : thingS L l with
    | more => rw [next_more hq] at h; cases h
    | fault v => rw [next_fault hq] at h; cases h; exact thing_word hq
    | done n ws =>
      obtain ⟨h1, h2, _⟩ := thing_done hq []
      by_cases hw : ws = []
      · subst hw
        rw [next_pass hq] at h
        cases hr : nextS L (l.drop n) with
        | more j => rw [hr] at h; cases h
        | fault j v => rw [hr] at h; cases h; exact ih (l.drop n) (by rw [List.length_drop]; omega) _ _ hr
        | one j q => rw [hr] at h; cases h
      · rw [next_one hq hw] at h; cases h
/- a beginning, and what comes behind it -/
theorem whole_app {L : Lim} : ∀ (N : Nat) (l : List UInt8), l.length ≤ N → ∀ t,
    ((wholeS L l).word ≠ [] → wholeS L (l ++ t) = wholeS L l) ∧
    ((wholeS L l).word = [] → wholeS L (l ++ t) = ⟨(wholeS L l).reqs ++ (wholeS L (l.drop (wholeS L l).used ++ t)).reqs, (wholeS L (l.drop (wholeS L l).used ++ t)).word, (wholeS L l).used + (wholeS L (l.drop (wholeS L l).used ++ t)).used⟩) := by
  intro N
  induction N with
  | zero =>
    intro l hl t
    have : l = [] := List.length_eq_zero_iff.1 (by omega)
    subst this
    have : nextS L [] = .more 0 := next_more rfl
    rw [whole_more this]
    refine ⟨fun h => absurd rfl h, fun _ => ?_⟩
    simp
  | succ N ih =>
    intro l hl t
    have hA := next_app (L := L) l.length l (Nat.le_refl _) t
    cases hq : nextS L l with
    | more k =>
      rw [hq] at hA
      obtain ⟨h1, h2⟩ := hA
      rw [whole_more hq]
      refine ⟨fun h => absurd rfl h, fun _ => ?_⟩
      have h3 : nextS L (l ++ t) = (nextS L ((l ++ t).drop k)).add k := by rw [List.drop_append_of_le_length h1]; exact h2
      rw [whole_add h3, List.drop_append_of_le_length h1]
      simp
    | fault k w =>
      rw [hq] at hA
      obtain ⟨h1, h2⟩ := hA
      rw [whole_fault hq, whole_fault h2]
      exact ⟨fun _ => rfl, fun h => absurd h (next_word l.length l (Nat.le_refl _) k w hq)⟩
    | one k ws =>
      rw [hq] at hA
      obtain ⟨h1, h2, h3, _⟩ := hA
      rw [whole_one hq, whole_one h3, List.drop_append_of_le_length h2]
      have := ih (l.drop k) (by rw [List.length_drop]; omega) t
      constructor
      · intro hw
        rw [this.1 hw]
      · intro hw
        rw [this.2 hw]
        simp [List.drop_drop, Nat.add_assoc]
/- requests that are written are read as they were -/
def bulkW (a : List UInt8) : List UInt8 := 36 :: (decDigits a.length ++ 13 :: 10 :: (a ++ [13, 10]))
def bulksW : List (List UInt8) → List UInt8
  | [] => []
  | a :: r => bulkW a ++ bulksW r
def writeS (args : List (List UInt8)) : List UInt8 := 42 :: (decDigits args.length ++ 13 :: 10 :: bulksW args)
theorem nl_none : ∀ (x : List UInt8), (∀ c, c ∈ x → c ≠ 10) → ∀ r, nl (x ++ 13 :: 10 :: r) = some (x.length + 1)
  | [], _, r => rfl
  | c :: x, h, r => by
    rw [List.cons_append, nl_cons, if_neg (h c (List.mem_cons_self ..)), nl_none x (fun d hd => h d (List.mem_cons_of_mem _ hd)) r]
    rfl
theorem trim13 (x : List UInt8) : trimSuffix (x ++ [13]) [13] = x := by
  have h : hasSuffix (x ++ [13]) [13] = true := by
    unfold hasSuffix
    rw [List.isSuffixOf_iff_suffix]
    exact List.suffix_append x [13]
  unfold trimSuffix
  rw [if_pos h]
  simp
theorem line_of (most : Nat) (x r : List UInt8) (h : ∀ c, c ∈ x → c ≠ 10) (hm : x.length + 1 ≤ most) : lineS most (x ++ 13 :: 10 :: r) = .got x (x.length + 2) := by
  unfold lineS
  rw [nl_none x h r]
  dsimp only
  rw [if_neg (by omega)]
  have e : (x ++ 13 :: 10 :: r).take (x.length + 1) = x ++ [13] := by
    rw [List.take_append, List.take_of_length_le (by omega), show x.length + 1 - x.length = 1 from by omega]
    rfl
  rw [e, trim13]
theorem dec_no10 (n : Nat) (m : UInt8) (hm : m ≠ 10) : ∀ c, c ∈ m :: decDigits n → c ≠ 10 := by
  intro c hc
  rcases List.mem_cons.1 hc with rfl | hc
  · exact hm
  · have := List.all_eq_true.1 (dec_all n) c hc
    rw [digB_iff] at this
    rintro rfl
    exact absurd this.1 (by decide)
theorem dec_short {u : Nat} (h : u ≤ 1048576) : (decDigits u).length ≤ 20 := by
  have := canon_len (canon_dec u) (by rw [val_dec]; omega)
  omega
theorem bulk_write (L : Lim) (hl : 32 ≤ L.line) (a r : List UInt8) (ha : a.length ≤ L.bulk) (hb : L.bulk ≤ 1048576) : bulkS L (bulkW a ++ r) = .done (bulkW a).length a := by
  have e : bulkW a ++ r = (36 :: decDigits a.length) ++ 13 :: 10 :: (a ++ 13 :: 10 :: r) := by unfold bulkW; simp
  have hlen := dec_short (u := a.length) (by omega)
  have hn := line_of L.line (36 :: decDigits a.length) (a ++ 13 :: 10 :: r) (dec_no10 _ _ (by decide)) (by rw [List.length_cons]; omega)
  rw [e]
  rw [List.cons_append] at hn ⊢
  unfold bulkS
  dsimp only
  rw [if_neg (by decide), hn]
  dsimp only [List.tail_cons]
  rw [count_dec ha]
  dsimp only
  have ed : ((36 :: (decDigits a.length ++ 13 :: 10 :: (a ++ 13 :: 10 :: r))) : List UInt8).drop ((36 :: decDigits a.length).length + 2) = a ++ 13 :: 10 :: r := by
    rw [List.length_cons, show (decDigits a.length).length + 1 + 2 = ((decDigits a.length).length + 2) + 1 from by omega, List.drop_succ_cons, List.drop_append, List.drop_of_length_le (by omega), show (decDigits a.length).length + 2 - (decDigits a.length).length = 2 from by omega]
    rfl
  rw [ed]
  unfold endS
  have ek : (a ++ 13 :: 10 :: r).drop a.length = 13 :: 10 :: r := by simp
  have et : (a ++ 13 :: 10 :: r).take a.length = a := by simp
  rw [ek, et]
  dsimp only
  rw [if_pos ⟨rfl, rfl⟩]
  unfold bulkW
  congr 1
  simp
  omega
theorem arr_write (L : Lim) (hl : 32 ≤ L.line) (hb : L.bulk ≤ 1048576) : ∀ (args ws : List (List UInt8)) (r : List UInt8), (∀ a, a ∈ args → a.length ≤ L.bulk) → arrS L args.length ws (bulksW args ++ r) = .done (bulksW args).length (ws ++ args)
  | [], ws, r, h => by simp [arrS, bulksW]
  | a :: args, ws, r, h => by
    rw [List.length_cons]
    unfold arrS
    have e : bulksW (a :: args) ++ r = bulkW a ++ (bulksW args ++ r) := by
      show (bulkW a ++ bulksW args) ++ r = _
      rw [List.append_assoc]
    rw [e, bulk_write L hl a _ (h a (List.mem_cons_self ..)) hb]
    dsimp only
    rw [List.drop_append_of_le_length (Nat.le_refl _), List.drop_length, List.nil_append, arr_write L hl hb args (ws ++ [a]) r (fun b hb => h b (List.mem_cons_of_mem _ hb))]
    show TR.done _ _ = TR.done _ _
    congr 1
    · show _ = (bulkW a ++ bulksW args).length; rw [List.length_append]
    · simp
theorem thing_write (L : Lim) (hl : 32 ≤ L.line) (hb : L.bulk ≤ 1048576) (hc : L.args ≤ 1048576) (args : List (List UInt8)) (r : List UInt8) (h0 : args.length ≤ L.args) (h : ∀ a, a ∈ args → a.length ≤ L.bulk) : thingS L (writeS args ++ r) = .done (writeS args).length args := by
  have e : writeS args ++ r = (42 :: decDigits args.length) ++ 13 :: 10 :: (bulksW args ++ r) := by unfold writeS; simp
  have hlen := dec_short (u := args.length) (by omega)
  have hn := line_of L.line (42 :: decDigits args.length) (bulksW args ++ r) (dec_no10 _ _ (by decide)) (by rw [List.length_cons]; omega)
  rw [e]
  unfold thingS
  rw [hn]
  dsimp only
  have ed : ((42 :: decDigits args.length) ++ 13 :: 10 :: (bulksW args ++ r)).drop ((42 :: decDigits args.length).length + 2) = bulksW args ++ r := by
    rw [List.drop_append, List.drop_of_length_le (by omega), show (42 :: decDigits args.length).length + 2 - (42 :: decDigits args.length).length = 2 from by omega]
    rfl
  rw [ed]
  unfold firstS
  rw [if_pos (show (42 :: decDigits args.length).headD 0 = 42 from rfl), List.tail_cons, count_dec h0]
  dsimp only
  rw [arr_write L hl hb args [] r h]
  show TR.done _ _ = TR.done _ _
  unfold writeS
  congr 1
  simp
  omega
theorem whole_write (L : Lim) (hl : 32 ≤ L.line) (hb : L.bulk ≤ 1048576) (hc : L.args ≤ 1048576) : ∀ (reqs : List (List (List UInt8))), (∀ a, a ∈ reqs → a ≠ [] ∧ a.length ≤ L.args ∧ ∀ b, b ∈ a → b.length ≤ L.bulk) → wholeS L (reqs.flatMap writeS) = ⟨reqs, [], (reqs.flatMap writeS).length⟩
  | [], h => by
    have : nextS L [] = .more 0 := next_more rfl
    exact whole_more this
  | a :: reqs, h => by
    obtain ⟨h1, h2, h3⟩ := h a (List.mem_cons_self ..)
    rw [List.flatMap_cons]
    have hn := next_one (thing_write L hl hb hc a (reqs.flatMap writeS) h2 h3) h1
    rw [whole_one hn, List.drop_append_of_le_length (Nat.le_refl _), List.drop_length, List.nil_append, whole_write L hl hb hc reqs (fun b hb => h b (List.mem_cons_of_mem _ hb))]
    simp
end Go.Proofs.YtfkilbhhpipjbaaGreatDoor.ReqMath
