/- A number's bytes, the lowest first, as a list and as a row of cells: no program is met here. Values, whether they may be, their bytes, and what is read of bytes: no program is met here. A list of entries in memory: read, new rows, append. -/
import Derived.Test.YtminfpkigenahaaGreatDoorCallRowSM
import Derived.Lib.SlBytesRow
import Derived.Test.YtminfpkigenahaaGreatDoorHeap2M
import Derived.Test.YtminfpkigenahaaGreatDoorBaseM
import Derived.Deep.DeepAppendWide
section
namespace Go.Proofs.YtminfpkigenahaaGreatDoor.FixMath

/-! ### a number's bytes -/
def bt (u : Int) (j : Nat) : Int := (u / 2 ^ (8 * j)) % 256
theorem bt_bd (u : Int) (j : Nat) : 0 ≤ bt u j ∧ bt u j < 256 := by unfold bt; omega
theorem bt_wrap (u : Int) (j : Nat) : IntKind.u8.wrap (u / 2 ^ (8 * j)) = bt u j := by rw [IntKind.wrap_u8]; rfl
/-- the cells behind k rounds: k bytes of u, then noughts -/
def rowK (u : Int) (n k : Nat) : List Value := (List.range n).map fun j => Value.int .u8 (if j < k then bt u j else 0)
theorem rowK_len (u : Int) (n k : Nat) : (rowK u n k).length = n := by simp [rowK]
theorem rowK_get (u : Int) (n k j : Nat) (h : j < n) : (rowK u n k)[j]? = some (Value.int .u8 (if j < k then bt u j else 0)) := by
  simp [rowK, h]
theorem rowK_zero (u : Int) (n : Nat) : rowK u n 0 = List.replicate n (Value.int .u8 0) := by
  apply List.ext_getElem?
  intro j
  by_cases h : j < n
  · rw [rowK_get u n 0 j h]; simp [h]
  · rw [List.getElem?_eq_none (by rw [rowK_len]; omega), List.getElem?_eq_none (by simp; omega)]
theorem rowK_succ (u : Int) (n k : Nat) : (rowK u n k).set k (Value.int .u8 (bt u k)) = rowK u n (k + 1) := by
  apply List.ext_getElem?
  intro j
  by_cases h : j < n
  · rw [rowK_get u n (k + 1) j h, List.getElem?_set]
    by_cases e : k = j
    · subst e; simp [rowK_len, h]
    · rw [if_neg e, rowK_get u n k j h]
      by_cases l : j < k
      · rw [if_pos l, if_pos (by omega)]
      · rw [if_neg l, if_neg (by omega)]
  · rw [List.getElem?_eq_none (by rw [List.length_set, rowK_len]; omega), List.getElem?_eq_none (by rw [rowK_len]; omega)]
/-- so many bytes of a number -/
def leY (u : Int) (n : Nat) : List UInt8 := (List.range n).map fun j => UInt8.ofNat (bt u j).toNat
theorem leY_len (u : Int) (n : Nat) : (leY u n).length = n := by simp [leY]
theorem leY_get (u : Int) (n j : Nat) (h : j < (leY u n).length) : (leY u n)[j] = UInt8.ofNat (bt u j).toNat := by simp [leY]
theorem leY_toNat (u : Int) (n j : Nat) (h : j < (leY u n).length) : (((leY u n)[j]).toNat : Int) = bt u j := by
  rw [leY_get]
  have := bt_bd u j
  simp; omega
theorem leY_succ (u : Int) (n : Nat) : leY u (n + 1) = leY u n ++ [UInt8.ofNat (bt u n).toNat] := by
  simp [leY, List.range_succ]
/-- the cells of k bytes -/
def rowC (u : Int) (k : Nat) : List Value := (List.range k).map fun j => Value.int .u8 (bt u j)
theorem rowC_len (u : Int) (k : Nat) : (rowC u k).length = k := by simp [rowC]
theorem rowC_get (u : Int) (k j : Nat) (h : j < k) : (rowC u k)[j]? = some (Value.int .u8 (bt u j)) := by simp [rowC, h]
theorem rowC_succ (u : Int) (k : Nat) : rowC u k ++ [Value.int .u8 (bt u k)] = rowC u (k + 1) := by simp [rowC, List.range_succ]
theorem rowK_end (u : Int) (n : Nat) : rowK u n n = rowC u n := by
  apply List.ext_getElem?
  intro j
  by_cases h : j < n
  · rw [rowK_get u n n j h, rowC_get u n j h, if_pos h]
  · rw [List.getElem?_eq_none (by rw [rowK_len]; omega), List.getElem?_eq_none (by rw [rowC_len]; omega)]
theorem quo_step (u : Int) (k : Nat) : u / 2 ^ (8 * k) / 256 = u / 2 ^ (8 * (k + 1)) := by
  rw [Int.ediv_ediv_of_nonneg (Int.le_of_lt (Int.pow_pos (by omega)))]
  congr 1
  rw [show 8 * (k + 1) = 8 * k + 8 from by omega, Int.pow_add]
  rfl
theorem quo_bd (u : Int) (k : Nat) (h0 : 0 ≤ u) (h1 : u ≤ 18446744073709551615) : 0 ≤ u / 2 ^ (8 * k) ∧ u / 2 ^ (8 * k) ≤ 18446744073709551615 := by
  have hp : (0 : Int) < 2 ^ (8 * k) := Int.pow_pos (by omega)
  refine ⟨Int.ediv_nonneg h0 (Int.le_of_lt hp), ?_⟩
  exact Int.le_trans (Int.ediv_le_self _ h0) h1
theorem size_of (l : List UInt8) : (⟨l.toArray⟩ : ByteArray).size = l.length := by simp [ByteArray.size]
end Go.Proofs.YtminfpkigenahaaGreatDoor.FixMath
end
section
namespace Go.Proofs.YtminfpkigenahaaGreatDoor.ValueMath
open Go.Proofs.YtminfpkigenahaaGreatDoor.SetMath
open Go.Proofs.YtminfpkigenahaaGreatDoor.BytesMath
open Go.Proofs.YtminfpkigenahaaGreatDoor.FixMath
set_option linter.unusedVariables false
abbrev FL := List (Bs × Bs)
abbrev EL := List (Bs × Int)
structure Vl where
  kind : Int
  text : Bs
  list : List Bs
  fields : FL
  ranked : EL
/- whether a value may be -/
def tOk (t : Bs) : Bool := decide (t.length ≤ 1048576)
def lOk (l : List Bs) : Bool := l.all tOk && decide (0 < l.length)
def setOk (l : List Bs) : Bool := lOk l && decide (Ris l)
def fnames (f : FL) : List Bs := f.map (·.1)
def hashOk (f : FL) : Bool := f.all (fun p => tOk p.2) && setOk (fnames f)
def ahd (a b : Bs × Int) : Bool := decide (a.2 < b.2) || (a.2 == b.2 && decide (a.1 < b.1))
def scOk (n : Int) : Bool := decide (-9007199254740992 ≤ n) && decide (n ≤ 9007199254740992)
def okAt (l : EL) (k : Nat) : Bool := match l[k]? with
  | none => true
  | some e => scOk e.2 && (k == 0 || match l[k - 1]? with
    | none => true
    | some a => ahd a e)
def ordB (l : EL) : Bool := (List.range l.length).all (okAt l)
def enames (l : EL) : List Bs := l.map (·.1)
def rankOk (l : EL) : Bool := ordB l && lOk (enames l) && ((S (enames l)).length == l.length)
def stray (v : Vl) : Bool := (v.text != [] && v.kind != 1) || (v.list != [] && v.kind != 2 && v.kind != 4) || (v.fields != [] && v.kind != 3) || (v.ranked != [] && v.kind != 5)
def mayBe (v : Vl) : Bool := if v.kind = 1 then tOk v.text else if v.kind = 2 then lOk v.list else if v.kind = 3 then hashOk v.fields else if v.kind = 4 then setOk v.list else rankOk v.ranked
def chk (v : Vl) : Int := if v.kind < 1 ∨ 5 < v.kind then 130 else if stray v = true ∨ mayBe v = false then 131 else 0
/- bytes -/
def le4 (n : Nat) : Bs := leY n 4
def le8 (n : Int) : Bs := leY (IntKind.u64.wrap n) 8
def encT (t : Bs) : Bs := le4 t.length ++ t
def encF (p : Bs × Bs) : Bs := encT p.1 ++ encT p.2
def encE (p : Bs × Int) : Bs := le8 p.2 ++ encT p.1
def encC {α : Type} (f : α → Bs) (l : List α) : Bs := le4 l.length ++ l.flatMap f
def encB (v : Vl) : Bs := if v.kind = 1 then encT v.text else if v.kind = 2 ∨ v.kind = 4 then encC encT v.list else if v.kind = 3 then encC encF v.fields else encC encE v.ranked
def enc (v : Vl) : Bs := UInt8.ofNat v.kind.toNat :: encB v
/- reading -/
def rdN (w : Nat) (s : Bs) : Option (Nat × Bs) := if s.length < w then none else some (leN (s.take w), s.drop w)
def rdTk (n : Nat) (s : Bs) : Option (Bs × Bs) := if s.length < n then none else some (s.take n, s.drop n)
def rdT (s : Bs) : Option (Bs × Bs) := (rdN 4 s).bind fun p => rdTk p.1 p.2
def rdF (s : Bs) : Option ((Bs × Bs) × Bs) := (rdT s).bind fun p => (rdT p.2).bind fun q => some ((p.1, q.1), q.2)
def rdE (s : Bs) : Option ((Bs × Int) × Bs) := (rdN 8 s).bind fun p => (rdT p.2).bind fun q => some ((q.1, IntKind.i64.wrap p.1), q.2)
def many {α : Type} (p : Bs → Option (α × Bs)) : Nat → Bs → Option (List α × Bs)
  | 0, s => some ([], s)
  | n + 1, s => (p s).bind fun q => (many p n q.2).bind fun t => some (q.1 :: t.1, t.2)
def rdC {α : Type} (p : Bs → Option (α × Bs)) (s : Bs) : Option (List α × Bs) := (rdN 4 s).bind fun q => many p q.1 q.2
def bodyS (k : Nat) (s : Bs) : Option (Vl × Bs) :=
  if k = 1 then (rdT s).bind fun q => some (⟨1, q.1, [], [], []⟩, q.2)
  else if k = 2 ∨ k = 4 then (rdC rdT s).bind fun q => some (⟨k, [], q.1, [], []⟩, q.2)
  else if k = 3 then (rdC rdF s).bind fun q => some (⟨3, [], [], q.1, []⟩, q.2)
  else if k = 5 then (rdC rdE s).bind fun q => some (⟨5, [], [], [], q.1⟩, q.2)
  else none
def valS (s : Bs) : Option (Vl × Bs) := (rdN 1 s).bind fun p => bodyS p.1 p.2
def decS (s : Bs) : Option (Vl × Nat) := (valS s).bind fun q => if chk q.1 = 0 then some (q.1, s.length - q.2.length) else none

/- numbers there and back -/
theorem leY_cons (u : Int) (n : Nat) : leY u (n + 1) = UInt8.ofNat (bt u 0).toNat :: leY (u / 256) n := by
  unfold leY
  rw [List.range_succ_eq_map, List.map_cons, List.map_map]
  congr 1
  apply List.map_congr_left
  intro j _
  show UInt8.ofNat (bt u (j + 1)).toNat = UInt8.ofNat (bt (u / 256) j).toNat
  unfold bt
  rw [← quo_step]
  have : u / 2 ^ (8 * j) / 256 = u / 256 / 2 ^ (8 * j) := by
    rw [Int.ediv_ediv_of_nonneg (Int.le_of_lt (Int.pow_pos (by omega))), Int.ediv_ediv_of_nonneg (by omega), Int.mul_comm]
  rw [this]
theorem leN_leY : ∀ (n : Nat) (u : Nat), u < 256 ^ n → leN (leY u n) = u
  | 0, u, h => by simp at h; subst h; rfl
  | n + 1, u, h => by
    rw [leY_cons]
    have e : ((u : Int) / 256) = ((u / 256 : Nat) : Int) := by simp
    rw [e]
    show (UInt8.ofNat (bt u 0).toNat).toNat + 256 * leN (leY ((u / 256 : Nat) : Int) n) = u
    rw [leN_leY n (u / 256) (by rw [Nat.pow_succ] at h; omega)]
    have : (bt u 0) = ((u % 256 : Nat) : Int) := by unfold bt; simp
    rw [this]
    simp
    omega
theorem leY_leN : ∀ (l : Bs), leY (leN l) l.length = l
  | [] => rfl
  | c :: t => by
    rw [List.length_cons, leY_cons]
    have hc := c.toNat_lt
    have e1 : (((leN (c :: t) : Nat) : Int) / 256) = ((leN t : Nat) : Int) := by simp only [leN]; omega
    have e2 : bt (leN (c :: t) : Nat) 0 = (c.toNat : Int) := by unfold bt; simp only [leN]; simp; omega
    rw [e1, e2, leY_leN t]
    simp
theorem len_le4 (n : Nat) : (le4 n).length = 4 := leY_len _ _
theorem len_le8 (n : Int) : (le8 n).length = 8 := leY_len _ _
theorem rdN_some {w : Nat} {s r : Bs} {n : Nat} (h : rdN w s = some (n, r)) : s = leY n w ++ r ∧ n < 256 ^ w := by
  unfold rdN at h
  split at h
  · cases h
  · injection h with h
    injection h with h1 h2
    have hl : (s.take w).length = w := by rw [List.length_take]; omega
    have e := leY_leN (s.take w)
    have b := leN_lt (s.take w)
    rw [hl, h1] at e
    rw [hl, h1] at b
    refine ⟨?_, b⟩
    rw [e, ← h2, List.take_append_drop]
theorem rdN_app (w n : Nat) (h : n < 256 ^ w) (s : Bs) : rdN w (leY n w ++ s) = some (n, s) := by
  have hl : (leY (n : Int) w).length = w := leY_len _ _
  unfold rdN
  rw [if_neg (by rw [List.length_append]; omega), List.take_left' hl, List.drop_left' hl, leN_leY w n h]
theorem rdTk_some {s t r : Bs} {n : Nat} (h : rdTk n s = some (t, r)) : s = t ++ r ∧ t.length = n := by
  unfold rdTk at h
  split at h
  · cases h
  · injection h with h
    injection h with h1 h2
    rw [← h1, ← h2]
    exact ⟨(List.take_append_drop _ _).symm, by rw [List.length_take]; omega⟩
theorem rdTk_app (t s : Bs) : rdTk t.length (t ++ s) = some (t, s) := by
  unfold rdTk
  rw [if_neg (by rw [List.length_append]; omega), List.take_left' rfl, List.drop_left' rfl]
theorem rdT_some {s t r : Bs} (h : rdT s = some (t, r)) : s = encT t ++ r ∧ t.length < 4294967296 := by
  unfold rdT at h
  obtain ⟨⟨n, r1⟩, h1, h2⟩ := Option.bind_eq_some_iff.1 h
  obtain ⟨e1, b⟩ := rdN_some h1
  obtain ⟨e2, e3⟩ := rdTk_some h2
  simp only at e2 e3
  subst e3
  rw [e1, e2]
  exact ⟨by unfold encT le4; rw [List.append_assoc], by simpa using b⟩
theorem rdT_app (t s : Bs) (h : t.length < 4294967296) : rdT (encT t ++ s) = some (t, s) := by
  unfold rdT encT le4
  rw [List.append_assoc, rdN_app 4 t.length (by simpa using h)]
  exact rdTk_app t s
theorem rdF_some {s r : Bs} {p : Bs × Bs} (h : rdF s = some (p, r)) : s = encF p ++ r ∧ p.1.length < 4294967296 ∧ p.2.length < 4294967296 := by
  unfold rdF at h
  obtain ⟨⟨a, r1⟩, h1, h2⟩ := Option.bind_eq_some_iff.1 h
  obtain ⟨⟨b, r2⟩, h3, h4⟩ := Option.bind_eq_some_iff.1 h2
  injection h4 with h4
  injection h4 with h5 h6
  simp only at h3 h5 h6
  obtain ⟨e1, b1⟩ := rdT_some h1
  obtain ⟨e2, b2⟩ := rdT_some h3
  subst h5
  subst h6
  exact ⟨by rw [e1, e2]; unfold encF; rw [List.append_assoc], b1, b2⟩
theorem rdF_app (p : Bs × Bs) (s : Bs) (h1 : p.1.length < 4294967296) (h2 : p.2.length < 4294967296) : rdF (encF p ++ s) = some (p, s) := by
  unfold rdF encF
  rw [List.append_assoc, rdT_app _ _ h1]
  show ((rdT (encT p.2 ++ s)).bind fun q => some ((p.1, q.1), q.2)) = _
  rw [rdT_app _ _ h2]
  rfl
theorem wrap_back (n : Int) (h1 : -9223372036854775808 ≤ n) (h2 : n ≤ 9223372036854775807) : IntKind.i64.wrap (IntKind.u64.wrap n) = n := by
  rw [IntKind.wrap_u64, IntKind.wrap_i64]; omega
theorem wrap_there (n : Nat) (h : n < 18446744073709551616) : IntKind.u64.wrap (IntKind.i64.wrap n) = n := by
  rw [IntKind.wrap_u64, IntKind.wrap_i64]; omega
theorem u64_nat (n : Int) : ∃ k : Nat, IntKind.u64.wrap n = k ∧ k < 18446744073709551616 := by
  refine ⟨(IntKind.u64.wrap n).toNat, ?_, ?_⟩ <;> rw [IntKind.wrap_u64] <;> omega
theorem rdE_some {s r : Bs} {p : Bs × Int} (h : rdE s = some (p, r)) : s = encE p ++ r ∧ p.1.length < 4294967296 := by
  unfold rdE at h
  obtain ⟨⟨n, r1⟩, h1, h2⟩ := Option.bind_eq_some_iff.1 h
  obtain ⟨⟨b, r2⟩, h3, h4⟩ := Option.bind_eq_some_iff.1 h2
  injection h4 with h4
  injection h4 with h5 h6
  simp only at h3 h5 h6
  obtain ⟨e1, b1⟩ := rdN_some h1
  obtain ⟨e2, b2⟩ := rdT_some h3
  subst h5
  subst h6
  refine ⟨?_, b2⟩
  rw [e1, e2]
  unfold encE le8
  rw [wrap_there n (by simpa using b1), List.append_assoc]
theorem rdE_app (p : Bs × Int) (s : Bs) (h1 : p.1.length < 4294967296) (h2 : -9223372036854775808 ≤ p.2) (h3 : p.2 ≤ 9223372036854775807) : rdE (encE p ++ s) = some (p, s) := by
  obtain ⟨k, hk, hb⟩ := u64_nat p.2
  unfold rdE encE le8
  rw [hk, List.append_assoc, rdN_app 8 k (by simpa using hb)]
  show ((rdT (encT p.1 ++ s)).bind fun q => some ((q.1, IntKind.i64.wrap k), q.2)) = _
  rw [rdT_app _ _ h1, ← hk, wrap_back _ h2 h3]
  rfl
theorem many_some {α : Type} {p : Bs → Option (α × Bs)} {f : α → Bs} {G : α → Prop} (hp : ∀ s x r, p s = some (x, r) → s = f x ++ r ∧ G x) : ∀ (n : Nat) (s : Bs) (l : List α) (r : Bs), many p n s = some (l, r) → s = l.flatMap f ++ r ∧ l.length = n ∧ ∀ x ∈ l, G x
  | 0, s, l, r, h => by
    injection h with h
    injection h with h1 h2
    subst h1; subst h2
    exact ⟨rfl, rfl, fun x hx => by cases hx⟩
  | n + 1, s, l, r, h => by
    obtain ⟨⟨x, r1⟩, h1, h2⟩ := Option.bind_eq_some_iff.1 h
    obtain ⟨⟨t, r2⟩, h3, h4⟩ := Option.bind_eq_some_iff.1 h2
    injection h4 with h4
    injection h4 with h5 h6
    simp only at h3 h5 h6
    obtain ⟨e1, g1⟩ := hp _ _ _ h1
    obtain ⟨e2, e3, g2⟩ := many_some hp n _ _ _ h3
    subst h5
    subst h6
    refine ⟨?_, by simp [e3], fun y hy => ?_⟩
    · rw [e1, e2, List.flatMap_cons, List.append_assoc]
    · rcases List.mem_cons.1 hy with rfl | hy
      · exact g1
      · exact g2 y hy
theorem many_app {α : Type} {p : Bs → Option (α × Bs)} {f : α → Bs} : ∀ (l : List α) (s : Bs), (∀ x ∈ l, ∀ s, p (f x ++ s) = some (x, s)) → many p l.length (l.flatMap f ++ s) = some (l, s)
  | [], s, _ => rfl
  | x :: l, s, h => by
    have e : (x :: l).flatMap f ++ s = f x ++ (l.flatMap f ++ s) := by rw [List.flatMap_cons, List.append_assoc]
    rw [e]
    show ((p (f x ++ (l.flatMap f ++ s))).bind fun q => (many p l.length q.2).bind fun t => some (q.1 :: t.1, t.2)) = _
    rw [h x List.mem_cons_self]
    show ((many p l.length (l.flatMap f ++ s)).bind fun t => some (x :: t.1, t.2)) = _
    rw [many_app l s (fun y hy => h y (List.mem_cons_of_mem _ hy))]
    rfl
theorem rdC_some {α : Type} {p : Bs → Option (α × Bs)} {f : α → Bs} {G : α → Prop} (hp : ∀ s x r, p s = some (x, r) → s = f x ++ r ∧ G x) {s r : Bs} {l : List α} (h : rdC p s = some (l, r)) : s = encC f l ++ r ∧ l.length < 4294967296 ∧ ∀ x ∈ l, G x := by
  unfold rdC at h
  obtain ⟨⟨n, r1⟩, h1, h2⟩ := Option.bind_eq_some_iff.1 h
  obtain ⟨e1, b⟩ := rdN_some h1
  obtain ⟨e2, e3, g⟩ := many_some hp _ _ _ _ h2
  simp only at e2 e3
  subst e3
  exact ⟨by rw [e1, e2]; unfold encC le4; rw [List.append_assoc], by simpa using b, g⟩
theorem rdC_app {α : Type} {p : Bs → Option (α × Bs)} {f : α → Bs} (l : List α) (s : Bs) (hl : l.length < 4294967296) (h : ∀ x ∈ l, ∀ s, p (f x ++ s) = some (x, s)) : rdC p (encC f l ++ s) = some (l, s) := by
  unfold rdC encC le4
  rw [List.append_assoc, rdN_app 4 l.length (by simpa using hl)]
  exact many_app l s h
/- values there and back -/
theorem chk_zero {v : Vl} (h : chk v = 0) : 1 ≤ v.kind ∧ v.kind ≤ 5 ∧ stray v = false ∧ mayBe v = true := by
  unfold chk at h
  split at h
  · exact absurd h (by decide)
  · split at h
    · exact absurd h (by decide)
    · rename_i h1 h2
      refine ⟨by omega, by omega, ?_, ?_⟩
      · cases e : stray v
        · rfl
        · exact absurd (Or.inl e) h2
      · cases e : mayBe v
        · exact absurd (Or.inr e) h2
        · rfl
theorem lOk_all {l : List Bs} (h : lOk l = true) : ∀ x ∈ l, x.length ≤ 1048576 := by
  unfold lOk at h
  rw [Bool.and_eq_true, List.all_eq_true] at h
  exact fun x hx => of_decide_eq_true (h.1 x hx)
theorem okAt_sc {l : EL} (h : ordB l = true) : ∀ e ∈ l, -9007199254740992 ≤ e.2 ∧ e.2 ≤ 9007199254740992 := by
  intro e he
  obtain ⟨k, hk, rfl⟩ := List.getElem_of_mem he
  unfold ordB at h
  have := List.all_eq_true.1 h k (List.mem_range.2 hk)
  unfold okAt at this
  rw [List.getElem?_eq_getElem hk] at this
  simp only [Bool.and_eq_true] at this
  have h1 := this.1
  unfold scOk at h1
  simpa using h1
theorem nil_of {α : Type} [BEq α] [LawfulBEq α] {l : List α} (h : (l != []) = false) : l = [] := by simpa using h
theorem stray_k {v : Vl} (h : stray v = false) : (v.kind ≠ 1 → v.text = []) ∧ (v.kind ≠ 2 → v.kind ≠ 4 → v.list = []) ∧ (v.kind ≠ 3 → v.fields = []) ∧ (v.kind ≠ 5 → v.ranked = []) := by
  unfold stray at h
  simp only [Bool.or_eq_false_iff] at h
  obtain ⟨⟨⟨h1, h2⟩, h3⟩, h4⟩ := h
  refine ⟨fun k => ?_, fun k k' => ?_, fun k => ?_, fun k => ?_⟩
  · rw [Bool.and_eq_false_iff] at h1
    exact h1.elim nil_of (fun q => absurd (by simpa using q) k)
  · rw [Bool.and_eq_false_iff, Bool.and_eq_false_iff] at h2
    rcases h2 with (q | q) | q
    · exact nil_of q
    · exact absurd (by simpa using q) k
    · exact absurd (by simpa using q) k'
  · rw [Bool.and_eq_false_iff] at h3
    exact h3.elim nil_of (fun q => absurd (by simpa using q) k)
  · rw [Bool.and_eq_false_iff] at h4
    exact h4.elim nil_of (fun q => absurd (by simpa using q) k)
def small (v : Vl) : Prop := v.list.length < 4294967296 ∧ v.fields.length < 4294967296 ∧ v.ranked.length < 4294967296
theorem kind5 {v : Vl} (h1 : 1 ≤ v.kind) (h2 : v.kind ≤ 5) : v.kind = 1 ∨ v.kind = 2 ∨ v.kind = 3 ∨ v.kind = 4 ∨ v.kind = 5 := by omega
theorem kb (k : Int) (n : Nat) (h : k = n) (hn : n < 256) : leN [UInt8.ofNat k.toNat] = n := by
  subst h
  show (UInt8.ofNat n).toNat + 256 * 0 = n
  simp
  omega
theorem hash_len {f : FL} (h : hashOk f = true) : ∀ p ∈ f, p.1.length < 4294967296 ∧ p.2.length < 4294967296 := by
  unfold hashOk setOk at h
  rw [Bool.and_eq_true, Bool.and_eq_true] at h
  intro p hp
  have h1 := lOk_all h.2.1 p.1 (List.mem_map.2 ⟨p, hp, rfl⟩)
  have h2 := of_decide_eq_true (List.all_eq_true.1 h.1 p hp)
  exact ⟨by omega, by omega⟩
theorem rank_len {l : EL} (h : rankOk l = true) : ∀ p ∈ l, p.1.length < 4294967296 ∧ -9223372036854775808 ≤ p.2 ∧ p.2 ≤ 9223372036854775807 := by
  unfold rankOk at h
  rw [Bool.and_eq_true, Bool.and_eq_true] at h
  intro p hp
  have h1 := lOk_all h.1.2 p.1 (List.mem_map.2 ⟨p, hp, rfl⟩)
  have h2 := okAt_sc h.1.1 p hp
  exact ⟨by omega, by omega, by omega⟩
theorem rdN1 (c : UInt8) (s : Bs) : rdN 1 (c :: s) = some (c.toNat, s) := by
  unfold rdN
  rw [if_neg (by simp)]
  simp [leN]
theorem val_app (v : Vl) (s : Bs) (h : chk v = 0) (hs : small v) : valS (enc v ++ s) = some (v, s) := by
  obtain ⟨k1, k2, hst, hm⟩ := chk_zero h
  obtain ⟨s1, s2, s3, s4⟩ := stray_k hst
  obtain ⟨b1, b2, b3⟩ := hs
  unfold valS enc
  rw [List.cons_append, rdN1]
  show bodyS (UInt8.ofNat v.kind.toNat).toNat (encB v ++ s) = _
  unfold mayBe at hm
  obtain ⟨vk, vt, vl, vf, vr⟩ := v
  simp only at k1 k2 s1 s2 s3 s4 b1 b2 b3 hm ⊢
  rcases (show vk = 1 ∨ vk = 2 ∨ vk = 3 ∨ vk = 4 ∨ vk = 5 by omega) with rfl | rfl | rfl | rfl | rfl
  · obtain rfl := s2 (by decide) (by decide)
    obtain rfl := s3 (by decide)
    obtain rfl := s4 (by decide)
    have hm' : tOk vt = true := by simpa using hm
    have hl : vt.length ≤ 1048576 := of_decide_eq_true hm'
    show ((rdT (encT vt ++ s)).bind _) = _
    rw [rdT_app vt s (by omega)]
    rfl
  · obtain rfl := s1 (by decide)
    obtain rfl := s3 (by decide)
    obtain rfl := s4 (by decide)
    have hm' : lOk vl = true := by simpa using hm
    show ((rdC rdT (encC encT vl ++ s)).bind _) = _
    rw [rdC_app vl s b1 (fun x hx t => rdT_app x t (by have := lOk_all hm' x hx; omega))]
    rfl
  · obtain rfl := s1 (by decide)
    obtain rfl := s2 (by decide) (by decide)
    obtain rfl := s4 (by decide)
    have hm' : hashOk vf = true := by simpa using hm
    show ((rdC rdF (encC encF vf ++ s)).bind _) = _
    rw [rdC_app vf s b2 (fun x hx t => rdF_app x t (hash_len hm' x hx).1 (hash_len hm' x hx).2)]
    rfl
  · obtain rfl := s1 (by decide)
    obtain rfl := s3 (by decide)
    obtain rfl := s4 (by decide)
    have hm' : setOk vl = true := by simpa using hm
    have hm2 : lOk vl = true := by unfold setOk at hm'; rw [Bool.and_eq_true] at hm'; exact hm'.1
    show ((rdC rdT (encC encT vl ++ s)).bind _) = _
    rw [rdC_app vl s b1 (fun x hx t => rdT_app x t (by have := lOk_all hm2 x hx; omega))]
    rfl
  · obtain rfl := s1 (by decide)
    obtain rfl := s2 (by decide) (by decide)
    obtain rfl := s3 (by decide)
    have hm' : rankOk vr = true := by simpa using hm
    show ((rdC rdE (encC encE vr ++ s)).bind _) = _
    rw [rdC_app vr s b3 (fun x hx t => rdE_app x t (rank_len hm' x hx).1 (rank_len hm' x hx).2.1 (rank_len hm' x hx).2.2)]
    rfl
theorem dec_app (v : Vl) (s : Bs) (h : chk v = 0) (hs : small v) : decS (enc v ++ s) = some (v, (enc v).length) := by
  unfold decS
  rw [val_app v s h hs]
  show (if chk v = 0 then some (v, (enc v ++ s).length - s.length) else none) = _
  rw [if_pos h, List.length_append, Nat.add_sub_cancel]
theorem val_some {s r : Bs} {v : Vl} (h : valS s = some (v, r)) : s = enc v ++ r ∧ small v := by
  unfold valS at h
  obtain ⟨⟨n, r1⟩, h1, h2⟩ := Option.bind_eq_some_iff.1 h
  have hs : s = UInt8.ofNat n :: r1 ∧ n < 256 := by
    cases s with
    | nil => unfold rdN at h1; simp at h1
    | cons c t =>
      rw [rdN1] at h1
      injection h1 with h1
      injection h1 with h3 h4
      subst h3; subst h4
      exact ⟨by simp, c.toNat_lt⟩
  obtain ⟨rfl, hn⟩ := hs
  unfold bodyS at h2
  simp only at h2
  split at h2
  · rename_i e
    subst e
    obtain ⟨⟨t, r2⟩, h3, h4⟩ := Option.bind_eq_some_iff.1 h2
    injection h4 with h4
    injection h4 with h5 h6
    simp only at h6
    subst h5; subst h6
    obtain ⟨e, b⟩ := rdT_some h3
    refine ⟨?_, by unfold small; simp⟩
    rw [e]; rfl
  · split at h2
    · rename_i e
      obtain ⟨⟨t, r2⟩, h3, h4⟩ := Option.bind_eq_some_iff.1 h2
      injection h4 with h4
      injection h4 with h5 h6
      simp only at h6
      subst h5; subst h6
      obtain ⟨e2, b, _⟩ := rdC_some (G := fun _ => True) (fun s x r h => ⟨(rdT_some h).1, trivial⟩) h3
      refine ⟨?_, by unfold small; simpa using b⟩
      rw [e2]
      rcases e with rfl | rfl <;> rfl
    · split at h2
      · rename_i e
        subst e
        obtain ⟨⟨t, r2⟩, h3, h4⟩ := Option.bind_eq_some_iff.1 h2
        injection h4 with h4
        injection h4 with h5 h6
        simp only at h6
        subst h5; subst h6
        obtain ⟨e2, b, _⟩ := rdC_some (G := fun _ => True) (fun s x r h => ⟨(rdF_some h).1, trivial⟩) h3
        refine ⟨?_, by unfold small; simpa using b⟩
        rw [e2]; rfl
      · split at h2
        · rename_i e
          subst e
          obtain ⟨⟨t, r2⟩, h3, h4⟩ := Option.bind_eq_some_iff.1 h2
          injection h4 with h4
          injection h4 with h5 h6
          simp only at h6
          subst h5; subst h6
          obtain ⟨e2, b, _⟩ := rdC_some (G := fun _ => True) (fun s x r h => ⟨(rdE_some h).1, trivial⟩) h3
          refine ⟨?_, by unfold small; simpa using b⟩
          rw [e2]; rfl
        · cases h2
theorem dec_some {s : Bs} {v : Vl} {n : Nat} (h : decS s = some (v, n)) : chk v = 0 ∧ small v ∧ n ≤ s.length ∧ enc v = s.take n ∧ n = (enc v).length := by
  unfold decS at h
  obtain ⟨⟨v', r⟩, h1, h2⟩ := Option.bind_eq_some_iff.1 h
  simp only at h2
  split at h2
  · rename_i e
    injection h2 with h2
    injection h2 with h3 h4
    subst h3
    obtain ⟨es, b⟩ := val_some h1
    have hl : s.length = (enc v').length + r.length := by rw [es, List.length_append]
    have hn : n = (enc v').length := by omega
    refine ⟨e, b, by omega, ?_, hn⟩
    rw [hn, es, List.take_left' rfl]
  · cases h2
theorem enc_pos (v : Vl) : 0 < (enc v).length := by unfold enc; simp
/- bytes tell values apart -/
theorem enc_begin {a b : Vl} (ha : chk a = 0) (hb : chk b = 0) (sa : small a) (sb : small b) {r : Bs} (h : enc b = enc a ++ r) : a = b ∧ r = [] := by
  have h1 := dec_app a r ha sa
  have h2 := dec_app b [] hb sb
  rw [List.append_nil, h, h1] at h2
  injection h2 with h2
  injection h2 with h3 h4
  refine ⟨h3, ?_⟩
  rw [List.length_append] at h4
  exact List.length_eq_zero_iff.1 (by omega)
theorem enc_inj {a b : Vl} (ha : chk a = 0) (hb : chk b = 0) (sa : small a) (sb : small b) (h : enc a = enc b) : a = b := (enc_begin ha hb sa sb (r := []) (by rw [h, List.append_nil])).1
theorem dec_cut {a : Vl} (ha : chk a = 0) (sa : small a) (n : Nat) (hn : n < (enc a).length) : decS ((enc a).take n) = none := by
  cases e : decS ((enc a).take n) with
  | none => rfl
  | some q =>
    obtain ⟨v, m⟩ := q
    obtain ⟨h1, h2, h3, h4, h5⟩ := dec_some e
    rw [List.take_take, List.length_take] at *
    have h6 : enc a = enc v ++ (enc a).drop (min m n) := by rw [h4, List.take_append_drop]
    obtain ⟨rfl, h7⟩ := enc_begin h1 ha h2 sa h6
    omega
/- two values that are the same -/
def sm (x y : Vl) : Bool := x.kind == y.kind && decide (x.text = y.text) && decide (x.list = y.list) && decide (x.fields = y.fields) && decide (x.ranked = y.ranked)
theorem sm_iff (x y : Vl) : sm x y = true ↔ x = y := by
  obtain ⟨a, b, c, d, e⟩ := x
  obtain ⟨a', b', c', d', e'⟩ := y
  simp [sm, and_assoc]
theorem sm_self (x : Vl) : sm x x = true := (sm_iff x x).2 rfl
end Go.Proofs.YtminfpkigenahaaGreatDoor.ValueMath
end
section
namespace Go.Proofs.YtminfpkigenahaaGreatDoor.ERow
open Go.RowKit Go.Sort
open Go.Proofs.YtminfpkigenahaaGreatDoor.SetMath
open Go.Proofs.YtminfpkigenahaaGreatDoor.ValueMath
open Go.Proofs.YtminfpkigenahaaGreatDoor.Base (bs mk len_bs bs_mk mk_bs mk_size mk_inj mk_list hid_of lt_of set_at set_ne size_set)
set_option linter.unusedVariables false
set_option linter.unusedSimpArgs false
abbrev EN := Bs × Int
abbrev LL := List EN
abbrev big : Nat := 9000000000000
theorem bdrew {B : Nat} {w w' : World} (h : Below B w w') (n : Nat) : Below B w (w'.drewN n) := ⟨h.os, h.tape, h.output, h.size, h.block⟩
theorem bel {B : Nat} {a b c : World} (h : Below B a b) (k : Below b.heap.size b c) (hB : B ≤ a.heap.size) : Below B a c := h.trans (k.mono (Nat.le_trans hB h.size))
theorem bnew (w : World) (o : Obj) : Below w.heap.size w (w.alloc o) := (Below.refl _ w).alloc (Nat.le_refl _) o
theorem cell_blk {w : World} {a : Addr} {v : Value} (h : w.cell? a = some v) : ∃ cs t fz, w.heap[a.block]? = some (.cells cs t fz) := by
  unfold World.cell? at h
  cases e : w.heap[a.block]? with
  | none => rw [e] at h; simp at h
  | some o =>
    cases o with
    | cells cs t fz => exact ⟨cs, t, fz, rfl⟩
    | _ => rw [e] at h; simp at h
theorem cell_on {w w' : World} (hb : Below w.heap.size w w') {a : Addr} {x : Value} (h : w.cell? a = some x) : w'.cell? a = some x := by
  obtain ⟨cs, t, fz, hk⟩ := cell_blk h
  rw [hb.cell (lt_of hk)]
  exact h

def eCells (p : EN) : List Value := [.string (mk p.1), .int .i64 p.2]
def eAt (w : World) (g o : Nat) (l : LL) : Prop := ∀ k (h : k < l.length), w.cell? ⟨g, o + k * 2, none⟩ = some (.string (mk (l[k]'h).1)) ∧ w.cell? ⟨g, o + k * 2 + 1, none⟩ = some (.int .i64 (l[k]'h).2)
def FS (w : World) (v : Value) (l : LL) : Prop := ∃ a c, v = .slice a l.length c ∧ l.length ≤ c ∧ (l = [] ∨ ∃ g o, a = some ⟨g, o, none⟩ ∧ eAt w g o l)
theorem FS.keep {w w' : World} {v : Value} {l : LL} (h : FS w v l) (hk : ∀ a x, w.cell? a = some x → w'.cell? a = some x) : FS w' v l := by
  obtain ⟨a, c, rfl, hc, h⟩ := h
  refine ⟨a, c, rfl, hc, h.imp id ?_⟩
  rintro ⟨g, o, e, hc⟩
  exact ⟨g, o, e, fun k hk' => ⟨hk _ _ (hc k hk').1, hk _ _ (hc k hk').2⟩⟩
theorem FS.below {w w' : World} {v : Value} {l : LL} (h : FS w v l) (hb : Below w.heap.size w w') : FS w' v l := h.keep (fun a x hx => cell_on hb hx)
theorem fflat_len (l : LL) : (l.flatMap eCells).length = l.length * 2 := by
  induction l with
  | nil => rfl
  | cons f r ih => rw [List.flatMap_cons, List.length_append, ih, List.length_cons]; simp [eCells]; omega
theorem fflat_at : ∀ (l : LL) (k : Nat) (h : k < l.length), (l.flatMap eCells)[k * 2]? = some (.string (mk (l[k]'h).1)) ∧ (l.flatMap eCells)[k * 2 + 1]? = some (.int .i64 (l[k]'h).2)
  | f :: r, 0, h => ⟨rfl, rfl⟩
  | f :: r, k + 1, h => by
    have ih := fflat_at r k (by simpa using h)
    have e : ∀ i, ((f :: r).flatMap eCells)[(k + 1) * 2 + i]? = (r.flatMap eCells)[k * 2 + i]? := fun i => by
      rw [List.flatMap_cons, List.getElem?_append_right (by simp [eCells]; omega)]
      congr 1
      simp [eCells]
      omega
    exact ⟨(e 0).trans ih.1, (e 1).trans ih.2⟩
abbrev OR (B : Nat) (w : World) (v : Value) (l : LL) : Prop := w.ownsRow B 69 2 v l.length (l.flatMap eCells)
theorem fs_row {B : Nat} {w : World} {l : LL} {v : Value} (h : OR B w v l) : FS w v l := by
  rcases h.2 with ⟨rfl, h0⟩ | ⟨g, cap, cur, rfl, hb, hg, q1, q2, q3, q4⟩
  · have : l = [] := List.length_eq_zero_iff.1 h0
    subst this
    exact ⟨none, 0, rfl, Nat.le_refl _, Or.inl rfl⟩
  · refine ⟨_, cap, rfl, q1, Or.inr ⟨g, 0, rfl, fun k hk => ?_⟩⟩
    obtain ⟨d0, d1⟩ := fflat_at l k hk
    have c0 := h.cellAt (k * 2) (by omega)
    have c1 := h.cellAt (k * 2 + 1) (by omega)
    rw [Nat.zero_add]
    exact ⟨c0.trans d0, c1.trans d1⟩
theorem row_later {w w' : World} {base e sz n : Nat} {v : Value} {xs : List Value} (h : w.ownsRow base e sz v n xs) (hk : ∀ g cs t fz, v.ownBlock = some g → w.heap[g]? = some (.cells cs t fz) → t = e → w'.heap[g]? = w.heap[g]?) : w'.ownsRow base e sz v n xs := by
  refine ⟨h.1, ?_⟩
  rcases h.2 with hn | ⟨g, cap, cur, rfl, hb, hg, rest⟩
  · exact Or.inl hn
  · exact Or.inr ⟨g, cap, cur, rfl, hb, (hk g _ _ _ rfl hg rfl).trans hg, rest⟩
theorem row_below {w w' : World} {base e sz n : Nat} {v : Value} {xs : List Value} (h : w.ownsRow base e sz v n xs) (hb : Below w.heap.size w w') : w'.ownsRow base e sz v n xs := row_later h (fun g cs t fz _ hg _ => hb.block g (lt_of hg))
theorem row_mono {w : World} {B B' e sz n : Nat} {v : Value} {xs : List Value} (h : w.ownsRow B e sz v n xs) (hB : B' ≤ B) : w.ownsRow B' e sz v n xs := by
  refine ⟨h.1, h.2.imp id ?_⟩
  rintro ⟨g, cap, cur, rfl, hb, rest⟩
  exact ⟨g, cap, cur, rfl, Nat.le_trans hB hb, rest⟩
theorem or_nil (B : Nat) (w : World) : OR B w (.slice none 0 0) [] := World.ownsRow_nil _ _ _ _
def ca (a : Option Addr) (c i : Nat) : Option Addr := if c = i then a else a.map (·.add (i * 2))
theorem cut_lo (a : Option Addr) (n c i : Nat) (hi : i ≤ n) (w : World) : (Instr.slice 28 (.slice a n c) (some (.int .i64 (i : Int))) none none).run Tryz.prog w = .ok (.slice (ca a c i) (n - i) (c - i)) w := by
  have h1 : (i : Int) ≤ n := by omega
  simp [Instr.slice, run_underlying Tryz.underlying28, Instr.sliceBounds, run_sliceBound, ca, h1]
theorem cut_hi (a : Option Addr) (n c j : Nat) (hj : j ≤ c) (w : World) : (Instr.slice 28 (.slice a n c) none (some (.int .i64 (j : Int))) none).run Tryz.prog w = .ok (.slice a j c) w := by
  have h2 : (j : Int) ≤ c := by omega
  have h0 : (if c = 0 then a else a.map (·.add 0)) = a := by
    by_cases h : c = 0
    · rw [if_pos h]
    · rw [if_neg h]
      cases a with
      | none => rfl
      | some a => simp [Addr.add]
  simp [Instr.slice, run_underlying Tryz.underlying28, Instr.sliceBounds, run_sliceBound, h2, h0]
theorem cut_any (a : Option Addr) (n c i j : Nat) (hij : i ≤ j) (hj : j ≤ c) (w : World) : (Instr.slice 28 (.slice a n c) (some (.int .i64 (i : Int))) (some (.int .i64 (j : Int))) none).run Tryz.prog w = .ok (.slice (ca a c i) (j - i) (c - i)) w := by
  have h1 : (i : Int) ≤ j := by omega
  have h2 : (j : Int) ≤ c := by omega
  simp [Instr.slice, run_underlying Tryz.underlying28, Instr.sliceBounds, run_sliceBound, ca, h1, h2]
theorem FS.cap {w : World} {a : Option Addr} {n c : Nat} {l : LL} (h : FS w (.slice a n c) l) : n = l.length ∧ l.length ≤ c := by
  obtain ⟨a', c', e, hc, h⟩ := h
  injection e with e1 e2 e3
  subst e3
  exact ⟨e2, hc⟩
theorem FS.at {w : World} {a : Option Addr} {n c : Nat} {l : LL} (h : FS w (.slice a n c) l) {k : Nat} (hk : k < l.length) : ∃ g o, a = some ⟨g, o, none⟩ ∧ eAt w g o l := by
  obtain ⟨a', c', e, hc, h⟩ := h
  injection e with e1 e2 e3
  subst e1
  rcases h with rfl | h
  · simp at hk
  · exact h
theorem FS.take {w : World} {a : Option Addr} {c : Nat} {l : LL} (h : FS w (.slice a l.length c) l) (j : Nat) (hj : j ≤ l.length) : FS w (.slice a j c) (l.take j) := by
  obtain ⟨a', c', e, hc, hfs⟩ := h
  injection e with e1 _ e3
  subst e1 e3
  have hl : (l.take j).length = j := by rw [List.length_take]; omega
  refine ⟨a, c, by rw [hl], by omega, ?_⟩
  rcases hfs with rfl | ⟨g, o, rfl, hq⟩
  · exact Or.inl (by simp)
  · refine Or.inr ⟨g, o, rfl, fun k hk => ?_⟩
    rw [List.getElem_take]
    exact hq k (by omega)
theorem FS.drop {w : World} {a : Option Addr} {c : Nat} {l : LL} (h : FS w (.slice a l.length c) l) (i : Nat) (hi : i ≤ l.length) : FS w (.slice (ca a c i) (l.length - i) (c - i)) (l.drop i) := by
  obtain ⟨a', c', e, hc, hfs⟩ := h
  injection e with e1 _ e3
  subst e1 e3
  have hl : (l.drop i).length = l.length - i := List.length_drop
  refine ⟨ca a c i, c - i, by rw [hl], by omega, ?_⟩
  by_cases hd : l.drop i = []
  · exact Or.inl hd
  · have hp : 0 < (l.drop i).length := List.length_pos_iff.2 hd
    rw [hl] at hp
    rcases hfs with rfl | ⟨g, o, rfl, hq⟩
    · simp at hp
    · refine Or.inr ⟨g, o + i * 2, ?_, fun k hk => ?_⟩
      · unfold ca
        rw [if_neg (by omega)]
        show some ((⟨g, o, none⟩ : Addr).add (i * 2)) = _
        rw [Addr.add_lit]
      · rw [List.getElem_drop]
        have := hq (i + k) (by omega)
        rw [show o + (i + k) * 2 = o + i * 2 + k * 2 from by omega] at this
        exact this
theorem parts_of {t : TypeId} {z : Value} {n m : Nat} (h : (Tryz.prog.info? t).map (fun i => (i.zero, i.size, i.bytes)) = some (some z, n, m)) : ∃ i, Tryz.prog.info? t = some i ∧ i.zero = some z ∧ i.size = n ∧ i.bytes = m := by
  cases e : Tryz.prog.info? t with
  | none => rw [e] at h; cases h
  | some i =>
    rw [e] at h
    simp at h
    exact ⟨i, rfl, h.1, h.2.1, h.2.2⟩
theorem info_sc : (Tryz.prog.info? 69).map (fun i => (i.zero, i.size, i.bytes)) = some (some (.agg #[.string ⟨#[]⟩, .int .i64 0]), 2, 24) := by kernel_rfl
theorem one_all (xs : LL) : ∀ u ∈ xs.flatMap eCells, u.oneCell' = true := by
  intro u hu
  obtain ⟨p, hp, h⟩ := List.mem_flatMap.1 hu
  simp only [eCells, List.mem_cons, List.not_mem_nil, or_false] at h
  rcases h with rfl | rfl <;> rfl
theorem fs_news {w : World} {g o : Nat} {l : LL} (h : eAt w g o l) : ∀ j u, (l.flatMap eCells)[j]? = some u → w.cell? ((⟨g, o, none⟩ : Addr).add j) = some u := fun j u hj => by
  have hlt : j < (l.flatMap eCells).length := (List.getElem?_eq_some_iff.1 hj).1
  rw [fflat_len] at hlt
  have hk : j / 2 < l.length := by omega
  obtain ⟨d0, d1⟩ := fflat_at l (j / 2) hk
  obtain ⟨c0, c1⟩ := h (j / 2) hk
  rw [Addr.add_lit]
  rcases Nat.mod_two_eq_zero_or_one j with e | e
  · have e2 : j = j / 2 * 2 := by omega
    rw [e2, d0] at hj
    rw [e2, c0]
    exact hj
  · have e2 : j = j / 2 * 2 + 1 := by omega
    rw [e2, d1] at hj
    rw [e2, show o + (j / 2 * 2 + 1) = o + j / 2 * 2 + 1 from by omega, c1]
    exact hj
theorem app_nil (a : Option Addr) (c : Nat) (w : World) : (Builtin.append_ #[28, 28] 28 #[.slice none 0 0, .slice a 0 c]).run Tryz.prog w = .ok (.slice none 0 0) w := by
  cases a with
  | none => kernel_rfl
  | some a => kernel_rfl
theorem append_fs (B : Nat) (w : World) (v u : Value) (xs ys : LL) (h : OR B w v xs) (hu : FS w u ys) (hb : B ≤ w.heap.size) (hn : xs.length + ys.length ≤ big) :
    ∃ v' w', (Builtin.append_ #[28, 28] 28 #[v, u]).run Tryz.prog w = .ok v' w' ∧ OR B w' v' (xs ++ ys) ∧ w.grownBy w' v.ownBlock := by
  obtain ⟨i, hi, hz0, hz1, hz2⟩ := parts_of info_sc
  obtain ⟨a, c, rfl, hc, hq⟩ := hu
  by_cases he : ys = []
  · subst he
    rw [List.append_nil]
    rcases h.2 with ⟨rfl, h0⟩ | ⟨g, cap, cur, rfl, hbg, hg, q1, q2, q3, q4⟩
    · exact ⟨_, w, app_nil a c w, h, ⟨rfl, rfl, rfl, Nat.le_refl _, fun _ _ _ => rfl⟩⟩
    · have hsrc : Src Tryz.prog i.size 28 (.slice a 0 c) 0 [] w := by
        cases a with
        | none => exact Src.ofNil w Tryz.underlying28 c
        | some a => exact Src.ofSlice w Tryz.underlying28 a 0 c [] (by simp) (fun j u hj => by simp at hj) (fun u hu => by cases hu)
      have hr := run_append_room_src (P := Tryz.prog) w 28 28 28 69 i Tryz.underlying28 hi g 0 xs.length cap (.slice a 0 c) 0 [] hsrc (by omega) (fun j hj => by simp at hj) (fun j hj => by simp at hj)
      refine ⟨.slice (some ⟨g, 0, none⟩) xs.length cap, w, ?_, h, ⟨rfl, rfl, rfl, Nat.le_refl _, fun _ _ _ => rfl⟩⟩
      rw [show ([] : LL).length = 0 from rfl, hr]
      simp [World.setCells]
  · rcases hq with hq | ⟨g, o, rfl, hq⟩
    · exact absurd hq he
    · obtain ⟨v', w', hr, ho, hg, _⟩ := run_append_own_wide (P := Tryz.prog) w B 28 28 69 i _ 2 24 Tryz.underlying28 hi hz0 hz1 hz2 rfl (by decide) v xs.length (xs.flatMap eCells) h ⟨g, o, none⟩ ys.length c (ys.flatMap eCells) (fflat_len ys) (fs_news hq) (one_all ys) (by unfold maxLen; unfold big at hn; omega) (by unfold big at hn; omega) hb
      refine ⟨v', w', hr, ?_, hg⟩
      show w'.ownsRow B _ 2 v' (xs ++ ys).length ((xs ++ ys).flatMap eCells)
      rw [List.length_append, List.flatMap_append]
      exact ho
structure Bd (w1 : World) (v : Value) (xs : LL) (w : World) : Prop where
  row : OR w1.heap.size w v xs
  bel : Below w1.heap.size w1 w
theorem bd_start (w : World) : Bd w (.slice none 0 0) [] w := ⟨or_nil _ _, Below.refl _ _⟩
theorem Bd.below {w1 W W' : World} {xs : LL} {v : Value} (h : Bd w1 v xs W) (hb : Below W.heap.size W W') : Bd w1 v xs W' := ⟨row_below h.row hb, ERow.bel h.bel hb (Nat.le_refl _)⟩
theorem bd_app {w1 W : World} {xs : LL} {v : Value} (h : Bd w1 v xs W) (u : Value) (ys : LL) (hu : FS W u ys) (hn : xs.length + ys.length ≤ big) :
    ∃ v' W', (Builtin.append_ #[28, 28] 28 #[v, u]).run Tryz.prog W = .ok v' W' ∧ Bd w1 v' (xs ++ ys) W' := by
  obtain ⟨v', W', hr, ho, hg⟩ := append_fs w1.heap.size W v u xs ys h.row hu h.bel.size hn
  exact ⟨v', W', hr, ho, h.bel.grown hg h.bel.size (fun k hk => (h.row.lt k hk).1)⟩
theorem fs_one (w : World) (e : EN) : FS (w.alloc (.cells #[.string (mk e.1), .int .i64 e.2] 69)) (.slice (some ⟨w.heap.size, 0, none⟩) 1 1) [e] := by
  refine ⟨_, 1, rfl, Nat.le_refl _, Or.inr ⟨w.heap.size, 0, rfl, fun k hk => ?_⟩⟩
  have h := heap_alloc_new w (.cells #[.string (mk e.1), .int .i64 e.2] 69)
  match k, hk with
  | 0, _ => exact ⟨by rw [Lib.cell_of_heap h]; rfl, by rw [Lib.cell_of_heap h]; rfl⟩

end Go.Proofs.YtminfpkigenahaaGreatDoor.ERow
end
